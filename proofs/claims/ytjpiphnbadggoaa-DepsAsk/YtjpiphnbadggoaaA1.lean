/-
 Plain arithmetic of 64 and 128 bits for the walks over package fix and the document's answers: no program in sight.
 Lists in memory of the call's own, of whatever elements: append.
 Lists of structs in memory, whatever their fields: read, owned, sorted.
 Sets of whole numbers as lists of spans, as plain data: which numbers a list has, its plain form, that there is one alone; how many; no program in sight.
 The sheet and its rectangles, as plain data.
 What cells need, as plain data: places, rectangles, which cells need a place, what is reached; no program in sight.
 Places, rectangles and needs in memory; which blocks a Deps of package deps may turn.
 A Deps of package deps in memory: its map, its columns.
-/
import Derived.WalkKit
import Derived.WalkSpells
import Derived.Deep.QuietTactic
import Derived.BigQuiet
import Derived.Shelf.Spec.BitsCarry
import Derived.Deep.RegionHeld3
import Derived.Test.YtjpiphnbadggoaaProg
import Derived.Deep.AppendLies
import Derived.Laws.OwnMore
import Derived.WalkLawsBesides
import Derived.Lib.AppendZeros
import Derived.Laws.StructEq
import Derived.Shelf.SlicesE.Kit
import Derived.Deep.DeepCutAuto
import Derived.Deep.Light
import Derived.Deep.CutBlock
import Derived.Test.YtjpiphnbadggoaaChecked
import Derived.Maps.RangeWalk
import Derived.DeepKeys5
import Derived.Lib.BufferMore
namespace Go.Proofs.Ytjpiphnbadggoaa
open Go.RowKit

/-- An int64. -/
def I64 (a : Int) : Prop := -9223372036854775808 ≤ a ∧ a ≤ 9223372036854775807
theorem ret_int {k : IntKind} {a b : Int} (h : a = b) : Ending.returned (.int k a) = .returned (.int k b) := by rw [h]
theorem ret_bool {a b : Bool} (h : a = b) : Ending.returned (.bool a) = .returned (.bool b) := by rw [h]
/-- The world behind a call: of what was there nothing has turned. -/
def Ext (w w' : World) : Prop := Below w.heap.size w w'
theorem Ext.refl (w : World) : Ext w w := Below.refl _ _
theorem Ext.trans {a b c : World} (h : Ext a b) (k : Ext b c) : Ext a c := Below.trans h (Below.mono k h.size)
theorem Ext.drew {a w : World} (h : Ext a w) : Ext a w.drew := Below.drew h
theorem Ext.drewN {a w : World} (h : Ext a w) (n : Nat) : Ext a (w.drewN n) := h.trans ⟨rfl, rfl, rfl, Nat.le_refl _, fun _ _ => rfl⟩
theorem Ext.alloc {a w : World} (h : Ext a w) (o : Obj) : Ext a (w.alloc o) := Below.alloc h h.size o
theorem Ext.setCell {a w : World} (h : Ext a w) {p : Addr} (hp : a.heap.size ≤ p.block) (u : Value) : Ext a (w.setCell p u) := Below.setCell h hp u
theorem Ext.cell {w w1 : World} (hb : Ext w w1) : (∀ b o, b < w.heap.size → w1.cell? ⟨b, o, none⟩ = w.cell? ⟨b, o, none⟩) ∧ (∀ b o, b < w.heap.size → w1.frozen? ⟨b, o, none⟩ = w.frozen? ⟨b, o, none⟩) :=
 ⟨fun b o h => Below.cell hb (p := ⟨b, o, none⟩) h, fun b o h => Below.frozen hb (p := ⟨b, o, none⟩) h⟩
theorem Ext.sz {w w' : World} (h : Ext w w') : w.heap.size ≤ w'.heap.size := h.size

/-! ### For regions that draw their order: a pair of cells, and that of what was there nothing has turned -/

open Go.RowKit
set_option maxHeartbeats 1000000

/-- What the program says of an element's type. -/
structure Elt (TS T : TypeId) (k bytes : Nat) : Prop where
 u : Try.prog.underlying TS = some (.slice T)
 i : ∃ i z, Try.prog.info? T = some i ∧ i.zero = some z ∧ i.size = k ∧ i.bytes = bytes ∧ z.cells.size = k
 k0 : 0 < k
theorem ownsRow_ext {w w' : World} {base : Nat} {T : TypeId} {k n : Nat} {v : Value} {xs : List Value} (h : w.ownsRow base T k v n xs) (e : Ext w w') : w'.ownsRow base T k v n xs := by
 refine ⟨h.1, ?_⟩
 rcases h.2 with h | ⟨g, cap, cur, h1, h2, h3, h4⟩
 · exact .inl h
 · exact .inr ⟨g, cap, cur, h1, h2, (e.block g (Array.getElem?_eq_some_iff.1 h3).1).trans h3, h4⟩
theorem ownsRow_mono {w : World} {base base' : Nat} {T : TypeId} {k n : Nat} {v : Value} {xs : List Value} (h : w.ownsRow base T k v n xs) (e : base' ≤ base) : w.ownsRow base' T k v n xs := by
 refine ⟨h.1, ?_⟩
 rcases h.2 with h | ⟨g, cap, cur, h1, h2, h3⟩
 · exact .inl h
 · exact .inr ⟨g, cap, cur, h1, Nat.le_trans e h2, h3⟩
theorem ext_grownG {w W W' : World} {base : Nat} {T : TypeId} {k n : Nat} {v : Value} {xs : List Value} (hB : W.ownsRow base T k v n xs) (hb : w.heap.size ≤ base) (hE : Ext w W) (hg : W.grownBy W' v.ownBlock) : Ext w W' := by
 refine ⟨hg.os.trans hE.os, hg.tape.trans hE.tape, hg.output.trans hE.output, Nat.le_trans hE.size hg.size, fun q hq => ?_⟩
 refine (hg.block q (Nat.lt_of_lt_of_le hq hE.size) ?_).trans (hE.block q hq)
 intro e
 have := (hB.lt q e.symm).1
 omega
/-- A slice that is read: these cells lie in a row. -/
def RowC (W : World) (v : Value) (m : Nat) (k : Nat) (news : List Value) : Prop := news.length = m * k ∧ ∃ p c, v = .slice p m c ∧ ((p = none ∧ m = 0) ∨ ∃ ad, p = some ad ∧ ∀ j u, news[j]? = some u → W.cell? (ad.add j) = some u)
theorem run_append_noneG {TS T : TypeId} {k bytes : Nat} (hT : Elt TS T k bytes) (w : World) (ty : TypeId) (p : Option Addr) (n cap c : Nat) (h : n ≤ cap) :
   (Builtin.append_ #[TS, TS] ty #[.slice p n cap, .slice none 0 c]).run Try.prog w = .ok (.slice p n cap) w := by
 obtain ⟨i, z, hi, hz, h1, h2, h3⟩ := hT.i
 cases p with
 | none => simp [Builtin.append_, run_underlying hT.u, sizeOf, typeInfo, hi, Builtin.lenOf, Builtin.firstCells, h]
 | some a => simp [Builtin.append_, run_underlying hT.u, sizeOf, typeInfo, hi, Builtin.lenOf, Builtin.firstCells, loadCells, h, storeCells]
theorem own_form {W : World} {base : Nat} {T : TypeId} {k n : Nat} {v : Value} {xs : List Value} (h : W.ownsRow base T k v n xs) : ∃ p c, v = .slice p n c ∧ n ≤ c := by
 rcases h.2 with ⟨h, h0⟩ | ⟨g, cap, cur, h, _, _, h4, _⟩
 · exact ⟨none, 0, by rw [h, h0], by omega⟩
 · exact ⟨_, _, h, h4⟩
/-- A literal without elements. -/
theorem own_new {T : TypeId} {k : Nat} (w W : World) (h : w.heap.size ≤ W.heap.size) : (W.alloc (.cells #[] T)).ownsRow w.heap.size T k (.slice (some ⟨W.heap.size, 0, none⟩) 0 0) 0 [] :=
 ⟨by simp, .inr ⟨W.heap.size, 0, #[], rfl, h, by show (W.heap.push _)[W.heap.size]? = _; rw [Array.getElem?_push_size], Nat.le_refl _, by simp, by simp, by simp⟩⟩

open Go.RowKit
set_option maxHeartbeats 1000000

theorem gm_len {α : Type} {c : α → List Value} {k : Nat} (hc : ∀ x, (c x).length = k) (l : List α) : (l.flatMap c).length = l.length * k := by
 induction l with
 | nil => simp
 | cons x l ih => rw [List.flatMap_cons, List.length_append, hc, ih, List.length_cons, Nat.succ_mul]; omega
theorem gm_at {α : Type} {c : α → List Value} {k : Nat} (hc : ∀ x, (c x).length = k) : ∀ (l : List α) (i : Nat) (x : α) (j : Nat), l[i]? = some x → j < k → (l.flatMap c)[i * k + j]? = (c x)[j]?
 | [], i, x, j, h, _ => by simp at h
 | y :: l, 0, x, j, h, hj => by
   simp at h; subst h
   rw [List.flatMap_cons, Nat.zero_mul, Nat.zero_add, List.getElem?_append_left (by rw [hc]; exact hj)]
 | y :: l, i + 1, x, j, h, hj => by
   have ih := gm_at hc l i x j (by simpa using h) hj
   rw [List.flatMap_cons, List.getElem?_append_right (by rw [hc, Nat.succ_mul]; omega), hc, ← ih]
   congr 1
   rw [Nat.succ_mul]; omega
theorem gm_get {α : Type} {c : α → List Value} {k : Nat} (hc : ∀ x, (c x).length = k) (hk : 0 < k) (l : List α) (j : Nat) (u : Value) (h : (l.flatMap c)[j]? = some u) : ∃ x, l[j / k]? = some x ∧ (c x)[j % k]? = some u := by
 have hj : j < l.length * k := by rw [← gm_len hc]; exact (List.getElem?_eq_some_iff.1 h).1
 have hi : j / k < l.length := by rw [Nat.div_lt_iff_lt_mul hk]; exact hj
 refine ⟨l[j / k], List.getElem?_eq_getElem hi, ?_⟩
 rw [← gm_at hc l (j / k) _ (j % k) (List.getElem?_eq_getElem hi) (Nat.mod_lt _ hk), Nat.mul_comm, Nat.div_add_mod]
 exact h
/-- The slice v holds l. -/
def RdG {α : Type} (c : α → List Value) (k : Nat) (W : World) (v : Value) (l : List α) : Prop :=
 ∃ p cp, v = .slice p l.length cp ∧ l.length ≤ cp ∧ (l = [] ∨ ∃ b off, p = some ⟨b, off, none⟩ ∧ b < W.heap.size ∧ ∀ i x j u, l[i]? = some x → (c x)[j]? = some u → W.cell? ⟨b, off + i * k + j, none⟩ = some u)
section
variable {α : Type} {c : α → List Value} {k : Nat}
theorem RdG.len {W : World} {p : Option Addr} {n cp : Nat} {l : List α} (h : RdG c k W (.slice p n cp) l) : n = l.length := by
 obtain ⟨p', c', h1, _⟩ := h
 cases h1; rfl
theorem RdG.form {W : World} {v : Value} {l : List α} (h : RdG c k W v l) : ∃ p cp, v = .slice p l.length cp ∧ l.length ≤ cp := by
 obtain ⟨p, cp, h1, h2, _⟩ := h
 exact ⟨p, cp, h1, h2⟩
theorem RdG.keep {W W' : World} {p : Option Addr} {n cp : Nat} {l : List α} (h : RdG c k W (.slice p n cp) l) (hs : W.heap.size ≤ W'.heap.size) (hk : ∀ a, p = some a → l ≠ [] → a.block < W.heap.size → W'.heap[a.block]? = W.heap[a.block]?) : RdG c k W' (.slice p n cp) l := by
 obtain ⟨p', c', h1, h2, h3⟩ := h
 cases h1
 refine ⟨p, cp, rfl, h2, ?_⟩
 rcases h3 with h3 | ⟨b, off, rfl, h5, h6⟩
 · exact .inl h3
 · refine .inr ⟨b, off, rfl, Nat.lt_of_lt_of_le h5 hs, fun i x j u hi hj => ?_⟩
   have := h6 i x j u hi hj
   unfold World.cell? at this ⊢
   rw [show W'.heap[b]? = W.heap[b]? from hk _ rfl (fun e => by rw [e] at hi; simp at hi) h5]
   exact this
theorem RdG.ext {W W' : World} {v : Value} {l : List α} (h : RdG c k W v l) (e : Ext W W') : RdG c k W' v l := by
 obtain ⟨p, cp, h1, h2, h3⟩ := h
 refine ⟨p, cp, h1, h2, ?_⟩
 rcases h3 with h3 | ⟨b, off, h4, h5, h6⟩
 · exact .inl h3
 · exact .inr ⟨b, off, h4, Nat.lt_of_lt_of_le h5 e.size, fun i x j u hi hj => (e.cell.1 b _ h5).trans (h6 i x j u hi hj)⟩
theorem RdG.nil (W : World) : RdG c k W (.slice none 0 0) [] := ⟨none, 0, rfl, Nat.le_refl _, .inl rfl⟩
theorem RdG.at {W : World} {p : Option Addr} {n cp : Nat} {l : List α} (h : RdG c k W (.slice p n cp) l) {i : Nat} {x : α} (hi : l[i]? = some x) :
   ∃ b off, p = some ⟨b, off, none⟩ ∧ b < W.heap.size ∧ ∀ j u, (c x)[j]? = some u → W.cell? ⟨b, off + i * k + j, none⟩ = some u := by
 obtain ⟨p', c', h1, h2, h3⟩ := h
 cases h1
 rcases h3 with h3 | ⟨b, off, h4, h5, h6⟩
 · subst h3; simp at hi
 · exact ⟨b, off, h4, h5, fun j u hj => h6 i x j u hi hj⟩
theorem RdG.row (hc : ∀ x, (c x).length = k) (hk : 0 < k) {W : World} {v : Value} {l : List α} (h : RdG c k W v l) : RowC W v l.length k (l.flatMap c) := by
 obtain ⟨p, cp, h1, h2, h3⟩ := h
 refine ⟨gm_len hc l, p, cp, h1, ?_⟩
 rcases h3 with rfl | ⟨b, off, rfl, _, h6⟩
 · cases p with
   | none => exact .inl ⟨rfl, rfl⟩
   | some ad => exact .inr ⟨ad, rfl, fun j u hu => by simp at hu⟩
 · refine .inr ⟨_, rfl, fun j u hu => ?_⟩
   obtain ⟨r, hr, hu⟩ := gm_get hc hk l j u hu
   have := h6 _ r _ u hr hu
   rw [Addr.add_lit]
   rw [Nat.add_assoc, Nat.mul_comm, Nat.div_add_mod] at this
   exact this
/-- What is owned is read. -/
theorem own_rdG (hc : ∀ x, (c x).length = k) {W : World} {base : Nat} {T : TypeId} {v : Value} {l : List α} {n : Nat} (h : W.ownsRow base T k v n (l.flatMap c)) (hn : n = l.length) : RdG c k W v l := by
 subst hn
 rcases h.2 with ⟨rfl, h0⟩ | ⟨g, cap, cur, rfl, h2, h3, h4, h5⟩
 · have : l = [] := List.eq_nil_of_length_eq_zero h0
   subst this
   exact RdG.nil W
 · have hg : g < W.heap.size := (Array.getElem?_eq_some_iff.1 h3).1
   refine ⟨_, cap, rfl, h4, .inr ⟨g, 0, rfl, hg, fun i x j u hi hj => ?_⟩⟩
   have hj6 : j < k := by rw [← hc x]; exact (List.getElem?_eq_some_iff.1 hj).1
   have k' := h.cells (g := g) rfl (i * k + j) u (by rw [gm_at hc l i x j hi hj6]; exact hj)
   simp only [Addr.add_lit] at k'
   rw [Nat.add_assoc]
   exact k'
theorem RdG.part {W : World} {p : Option Addr} {n cp : Nat} {l : List α} (h : RdG c k W (.slice p n cp) l) (j : Nat) (hj : j ≤ l.length) : RdG c k W (.slice p j cp) (l.take j) := by
 obtain ⟨p', c', h1, h2, h3⟩ := h
 cases h1
 have hl : (l.take j).length = j := by simp; omega
 refine ⟨_, cp, by rw [hl], by rw [hl]; omega, ?_⟩
 rcases h3 with h3 | ⟨b', off', h4, h5, h6⟩
 · subst h3; exact .inl (by simp)
 · refine .inr ⟨b', off', h4, h5, fun i x q u hk hq => h6 i x q u ?_ hq⟩
   rw [List.getElem?_take] at hk
   split at hk
   · exact hk
   · cases hk
theorem gm_one (h1 : ∀ x, ∀ v ∈ c x, v.oneCell' = true) (l : List α) : ∀ u ∈ l.flatMap c, u.oneCell' = true := by
 intro u hu
 obtain ⟨r, _, hu⟩ := List.mem_flatMap.1 hu
 exact h1 r u hu
end
/-- append, at the operation; the row lies where it lay, or at the top. -/
theorem own_app2 {TS T : TypeId} {k bytes : Nat} (hT : Elt TS T k bytes) {ops : Array Oper} {rest : List Oper} {o : Oper} {a : Act} {Q : Exit → Act → World → Prop} (W : World) (s x : Operand) (v va : Value) (n m : Nat) (xs news : List Value) (base : Nat) (hgd : o.guard = none)
   (ho : o.op = .call { callee := .builtin .append, args := #[s, x], argTypes := #[TS, TS] })
   (hs : a.eval s = v) (hx : a.eval x = va) (hB : W.ownsRow base T k v n xs) (hR : RowC W va m k news) (h1c : ∀ u ∈ news, u.oneCell' = true) (hm : n + m ≤ maxLen) (hby : (n + m) * bytes ≤ 140737488355328) (hb2 : base ≤ W.heap.size)
   (h : ∀ v' W', W'.ownsRow base T k v' (n + m) (xs ++ news) → W.grownBy W' v.ownBlock → (v'.ownBlock = v.ownBlock ∨ v'.ownBlock = some W.heap.size) → wpList Try.prog ops Q rest (a.put o.dst v') W') : wpList Try.prog ops Q (o :: rest) a W := by
 obtain ⟨hl, p, c, rfl, hR⟩ := hR
 obtain ⟨i, z, hi, hz, h1, h2, h3⟩ := hT.i
 rcases hR with ⟨rfl, rfl⟩ | ⟨ad, rfl, hR⟩
 · have hn : news = [] := List.eq_nil_of_length_eq_zero (by simpa using hl)
   subst hn
   obtain ⟨p, cap, rfl, hc⟩ : ∃ p cap, v = .slice p n cap ∧ n ≤ cap := by
     rcases hB.2 with ⟨h, h0⟩ | ⟨g, cap, cur, h, _, _, h4, _⟩
     · exact ⟨none, 0, by rw [h, h0], by omega⟩
     · exact ⟨_, _, h, h4⟩
   refine Lib.wpList_append_run W hgd s x _ _ ho _ _ hs hx _ _ (run_append_noneG hT W o.type p n cap c hc) ?_
   exact h _ W (by simpa using hB) ⟨rfl, rfl, rfl, Nat.le_refl _, fun _ _ _ => rfl⟩ (.inl rfl)
 · refine wpList_append_own_at W hgd s x TS ho base T i z k bytes hT.u hi hz h1 h2 h3 hT.k0 v n xs hs hB ad m c news hx hl hR h1c hm hby hb2 ?_
   intro v' W' h3 h4 _ h5
   exact h v' W' h3 h4 h5
theorem top_heap (w : World) (o : Obj) : (w.alloc o).heap[w.heap.size]? = some o := by show (w.heap.push o)[w.heap.size]? = some o; simp
theorem heap_lt {w : World} {g : Nat} {o : Obj} (h : w.heap[g]? = some o) : g < w.heap.size := (Array.getElem?_eq_some_iff.1 h).1
theorem cells_heap {w w' : World} {k : Nat} (h : w'.heap[k]? = w.heap[k]?) (o : Nat) : w'.cell? ⟨k, o, none⟩ = w.cell? ⟨k, o, none⟩ ∧ w'.frozen? ⟨k, o, none⟩ = w.frozen? ⟨k, o, none⟩ := by
 unfold World.cell? World.frozen?
 simp only [h, and_self]
theorem wrapI (k : Nat) (h : k ≤ 1000000) : wrap64 ((k : Int) + 1) = ((k + 1 : Nat) : Int) := by unfold wrap64; omega
theorem take_at {α : Type} {l : List α} {k : Nat} {s : α} (h : l[k]? = some s) : l.take (k + 1) = l.take k ++ [s] := by
 rw [List.take_add_one, h]; rfl
/-- append of a list to one that is owned, at the operation. -/
theorem app_g {α : Type} {c : α → List Value} {TS T : TypeId} {k bytes : Nat} (hT : Elt TS T k bytes) (hc : ∀ x, (c x).length = k) (h1 : ∀ x, ∀ v ∈ c x, v.oneCell' = true) (hby : bytes ≤ 1000) {ops : Array Oper} {rest : List Oper} {o : Oper} {a : Act} {Q : Exit → Act → World → Prop} (W w : World) (s x : Operand) (v va : Value) (n m : Nat) (l news : List α) (base : Nat) (hgd : o.guard = none)
   (ho : o.op = .call { callee := .builtin .append, args := #[s, x], argTypes := #[TS, TS] })
   (hs : a.eval s = v) (hx : a.eval x = va) (hB : W.ownsRow base T k v n (l.flatMap c)) (hm : news.length = m) (hR : RdG c k W va news) (hl : n + m ≤ 1000000) (hE : Ext w W) (hb : w.heap.size ≤ base) (hb2 : base ≤ W.heap.size)
   (h : ∀ v' W', W'.ownsRow base T k v' (n + m) ((l ++ news).flatMap c) → Ext w W' → W.grownBy W' v.ownBlock → (v'.ownBlock = v.ownBlock ∨ v'.ownBlock = some W.heap.size) → wpList Try.prog ops Q rest (a.put o.dst v') W') : wpList Try.prog ops Q (o :: rest) a W := by
 subst hm
 refine own_app2 hT W s x v va n news.length (l.flatMap c) (news.flatMap c) base hgd ho hs hx hB (hR.row hc hT.k0) (gm_one h1 news) (by unfold maxLen; omega) (Nat.le_trans (Nat.mul_le_mul hl hby) (by decide)) hb2 ?_
 intro v' W' k1 k2 k3
 rw [← List.flatMap_append] at k1
 exact h v' W' k1 (ext_grownG hB hb hE k2) k2 k3
/-- A list of one, just built. -/
theorem RdG.one {α : Type} {c : α → List Value} {k : Nat} {W : World} {x : α} {b : Nat} {cur : Array Value} {T : TypeId} {fr : Nat × Nat} (hb : W.heap[b]? = some (.cells cur T fr)) (hx : ∀ (j : Nat) (u : Value), (c x)[j]? = some u → cur[j]? = some u) : RdG c k W (.slice (some ⟨b, 0, none⟩) 1 1) [x] := by
 refine ⟨_, 1, rfl, Nat.le_refl _, .inr ⟨b, 0, rfl, heap_lt hb, fun i y j u hi hj => ?_⟩⟩
 have hi0 : i = 0 := by have := (List.getElem?_eq_some_iff.1 hi).1; simp at this; omega
 subst hi0
 simp at hi
 subst hi
 rw [cell_of_row W b _ cur T fr hb, show 0 + 0 * k + j = j by omega]
 exact hx j u hj
theorem Ext.top {w w' : World} {o : Obj} (e : Ext (w.alloc o) w') : w'.heap[w.heap.size]? = some o := (e.block w.heap.size (by simp)).trans (top_heap w o)
/-- append in a region that draws its order. -/
theorem step_app {α : Type} {c : α → List Value} {TS T : TypeId} {k bytes : Nat} (hT : Elt TS T k bytes) (hc : ∀ x, (c x).length = k) (h1 : ∀ x, ∀ v ∈ c x, v.oneCell' = true) (hby : bytes ≤ 1000) {ops : Array Oper} {o : Oper} {a : Act} {K : Act → World → Prop} {Q : Exit → Act → World → Prop} {E : Prop} (W : World) (s x : Operand) (v : Value) (ad : Addr) (n m cp : Nat) (l news : List α) (base : Nat) (hgd : o.guard = none)
   (ho : o.op = .call { callee := .builtin .append, args := #[s, x], argTypes := #[TS, TS] })
   (hs : a.eval s = v) (hx : a.eval x = .slice (some ad) m cp) (hB : W.ownsRow base T k v n (l.flatMap c)) (hm : news.length = m) (hR : RdG c k W (.slice (some ad) m cp) news) (hl : n + m ≤ 1000000) (hb2 : base ≤ W.heap.size)
   (h : ∀ v' W', W'.ownsRow base T k v' (n + m) ((l ++ news).flatMap c) → W.grownBy W' v.ownBlock → (v'.ownBlock = v.ownBlock ∨ v'.ownBlock = some W.heap.size) → K (a.put o.dst v') W') : if Region.wanted o (yielded ops a.tmps) = true then Oper.wp Try.prog o a W K Q else E := by
 have hw : Region.wanted o (yielded ops a.tmps) = true := by simp [Region.wanted, hgd]
 rw [if_pos hw]
 subst hm
 obtain ⟨i, z, hi, hz, e1, e2, e3⟩ := hT.i
 obtain ⟨hln, p, cp', hv, hrow⟩ := hR.row hc hT.k0
 cases hv
 obtain ⟨ad', had, hrow⟩ : ∃ ad', some ad = some ad' ∧ ∀ j u, (news.flatMap c)[j]? = some u → W.cell? (ad'.add j) = some u := by
   rcases hrow with ⟨h0, _⟩ | h
   · cases h0
   · exact h
 cases had
 obtain ⟨v', W', hr, k1, k2, _, k3⟩ := run_append_own_at (P := Try.prog) (w := W) base TS o.type T i z k bytes hT.u hi hz e1 e2 e3 hT.k0 v n (l.flatMap c) hB ad news.length cp (news.flatMap c) hln hrow (gm_one h1 news) (by unfold maxLen; omega) (Nat.le_trans (Nat.mul_le_mul hl hby) (by decide)) hb2
 rw [← List.flatMap_append] at k1
 unfold Oper.wp
 simp [execOp, ho, resolve, invoke, builtin, hs, hx, hr, Result.andThen]
 exact h v' W' k1 k2 k3

open Go.RowKit

/-- A span: from, and to (without it). -/
abbrev Sp := Int × Int
def spB (s : Sp) (n : Int) : Bool := decide (s.1 ≤ n) && decide (n < s.2)
/-- Whether n is one of l's numbers. -/
def hasB (l : List Sp) (n : Int) : Bool := l.any fun s => spB s n
theorem spB_iff {s : Sp} {n : Int} : spB s n = true ↔ s.1 ≤ n ∧ n < s.2 := by simp [spB]
theorem hasB_iff {l : List Sp} {n : Int} : hasB l n = true ↔ ∃ s ∈ l, s.1 ≤ n ∧ n < s.2 := by
 unfold hasB; rw [List.any_eq_true]; exact ⟨fun ⟨s, h1, h2⟩ => ⟨s, h1, spB_iff.mp h2⟩, fun ⟨s, h1, h2⟩ => ⟨s, h1, spB_iff.mpr h2⟩⟩
theorem hasB_nil (n : Int) : hasB [] n = false := rfl
theorem hasB_cons (s : Sp) (l : List Sp) (n : Int) : hasB (s :: l) n = (spB s n || hasB l n) := rfl
theorem hasB_append (a b : List Sp) (n : Int) : hasB (a ++ b) n = (hasB a n || hasB b n) := by unfold hasB; exact List.any_append
theorem bool_ext {a b : Bool} (h : a = true ↔ b = true) : a = b := by cases a <;> cases b <;> simp_all
theorem hasB_perm {a b : List Sp} (h : a.Perm b) (n : Int) : hasB a n = hasB b n := by
 apply bool_ext; rw [hasB_iff, hasB_iff]
 exact ⟨fun ⟨s, h1, h2⟩ => ⟨s, h.mem_iff.mp h1, h2⟩, fun ⟨s, h1, h2⟩ => ⟨s, h.mem_iff.mpr h1, h2⟩⟩
/-- The plain form. -/
def Plain (l : List Sp) : Prop := l.Pairwise (fun s t => s.2 < t.1) ∧ ∀ s ∈ l, s.1 < s.2
theorem plain_nil : Plain [] := ⟨List.Pairwise.nil, by simp⟩
theorem plain_cons {s : Sp} {l : List Sp} : Plain (s :: l) ↔ (∀ t ∈ l, s.2 < t.1) ∧ s.1 < s.2 ∧ Plain l := by
 unfold Plain
 rw [List.pairwise_cons]
 constructor
 · rintro ⟨⟨h1, h2⟩, h3⟩
   exact ⟨h1, h3 s (by simp), h2, fun t ht => h3 t (by simp [ht])⟩
 · rintro ⟨h1, h2, h3, h4⟩
   refine ⟨⟨h1, h3⟩, ?_⟩
   intro t ht
   rcases List.mem_cons.mp ht with rfl | ht
   · exact h2
   · exact h4 t ht
theorem plain_snoc {s : Sp} {l : List Sp} : Plain (l ++ [s]) ↔ (∀ t ∈ l, t.2 < s.1) ∧ s.1 < s.2 ∧ Plain l := by
 unfold Plain
 rw [List.pairwise_append]
 constructor
 · rintro ⟨⟨h1, _, h2⟩, h3⟩
   exact ⟨fun t ht => h2 t ht s (by simp), h3 s (by simp), h1, fun t ht => h3 t (by simp [ht])⟩
 · rintro ⟨h1, h2, h3, h4⟩
   refine ⟨⟨h3, by simp, fun a ha b hb => ?_⟩, ?_⟩
   · simp at hb; subst hb; exact h1 a ha
   · intro t ht
     rcases List.mem_append.mp ht with ht | ht
     · exact h4 t ht
     · simp at ht; subst ht; exact h2
theorem has_first {s : Sp} {l : List Sp} (h : Plain (s :: l)) : hasB (s :: l) s.1 = true := by
 rw [hasB_iff]; exact ⟨s, by simp, Int.le_refl _, (plain_cons.mp h).2.1⟩
/-- There is one plain form alone. -/
theorem plain_one : ∀ {l m : List Sp}, Plain l → Plain m → (∀ n, hasB l n = hasB m n) → l = m
 | [], [], _, _, _ => rfl
 | [], t :: m, _, h2, h => by have := h t.1; rw [has_first h2] at this; cases this
 | s :: l, [], h1, _, h => by have := h s.1; rw [has_first h1] at this; cases this
 | s :: l, t :: m, h1, h2, h => by
   have a1 := (hasB_iff.mp ((h s.1).symm.trans (has_first h1)))
   have a2 := (hasB_iff.mp ((h t.1).trans (has_first h2)))
   obtain ⟨p1, p2, p3⟩ := plain_cons.mp h1
   obtain ⟨q1, q2, q3⟩ := plain_cons.mp h2
   have e1 : s.1 = t.1 := by
     obtain ⟨u, hu, b1, b2⟩ := a1
     obtain ⟨v, hv, c1, c2⟩ := a2
     have k1 : t.1 ≤ s.1 := by
       rcases List.mem_cons.mp hu with rfl | hu
       · exact b1
       · have := q1 u hu; omega
     have k2 : s.1 ≤ t.1 := by
       rcases List.mem_cons.mp hv with rfl | hv
       · exact c1
       · have := p1 v hv; omega
     omega
   have n1 : hasB (s :: l) s.2 = false := by
     cases hh : hasB (s :: l) s.2
     · rfl
     · obtain ⟨u, hu, b1, b2⟩ := hasB_iff.mp hh
       rcases List.mem_cons.mp hu with rfl | hu
       · omega
       · have := p1 u hu; omega
   have n2 : hasB (t :: m) t.2 = false := by
     cases hh : hasB (t :: m) t.2
     · rfl
     · obtain ⟨u, hu, b1, b2⟩ := hasB_iff.mp hh
       rcases List.mem_cons.mp hu with rfl | hu
       · omega
       · have := q1 u hu; omega
   have e2 : s.2 = t.2 := by
     rcases Int.lt_trichotomy s.2 t.2 with k | k | k
     · exfalso
       have : hasB (t :: m) s.2 = true := hasB_iff.mpr ⟨t, by simp, by omega, k⟩
       rw [← h, n1] at this; cases this
     · exact k
     · exfalso
       have : hasB (s :: l) t.2 = true := hasB_iff.mpr ⟨s, by simp, by omega, k⟩
       rw [h, n2] at this; cases this
   have e : s = t := Prod.ext e1 e2
   subst e
   have : l = m := plain_one p3 q3 fun n => by
     apply bool_ext
     constructor
     · intro hh
       obtain ⟨u, hu, b1, b2⟩ := hasB_iff.mp hh
       have k : hasB (s :: l) n = true := hasB_iff.mpr ⟨u, by simp [hu], b1, b2⟩
       rw [h] at k
       obtain ⟨v, hv, c1, c2⟩ := hasB_iff.mp k
       rcases List.mem_cons.mp hv with rfl | hv
       · have := p1 u hu; omega
       · exact hasB_iff.mpr ⟨v, hv, c1, c2⟩
     · intro hh
       obtain ⟨u, hu, b1, b2⟩ := hasB_iff.mp hh
       have k : hasB (s :: m) n = true := hasB_iff.mpr ⟨u, by simp [hu], b1, b2⟩
       rw [← h] at k
       obtain ⟨v, hv, c1, c2⟩ := hasB_iff.mp k
       rcases List.mem_cons.mp hv with rfl | hv
       · have := q1 u hu; omega
       · exact hasB_iff.mpr ⟨v, hv, c1, c2⟩
   rw [this]
/-! ### How many -/
/-! ### A span laid behind a plain list -/
def lay (l : List Sp) (s : Sp) : List Sp :=
 if s.2 ≤ s.1 then l else
 match l.getLast? with
 | some t => if s.1 ≤ t.2 then l.dropLast ++ [(t.1, max t.2 s.2)] else l ++ [s]
 | none => l ++ [s]
theorem lay_empty {l : List Sp} {s : Sp} (h : s.2 ≤ s.1) : lay l s = l := by simp [lay, h]
theorem lay_first {s : Sp} (h : ¬ s.2 ≤ s.1) : lay [] s = [s] := by simp [lay, h]
theorem lay_grow {p : List Sp} {t s : Sp} (h : ¬ s.2 ≤ s.1) (h2 : s.1 ≤ t.2) : lay (p ++ [t]) s = p ++ [(t.1, max t.2 s.2)] := by simp [lay, h, h2]
theorem lay_more {p : List Sp} {t s : Sp} (h : ¬ s.2 ≤ s.1) (h2 : ¬ s.1 ≤ t.2) : lay (p ++ [t]) s = (p ++ [t]) ++ [s] := by simp [lay, h, h2]
theorem snoc_cases (l : List Sp) : l = [] ∨ ∃ p t, l = p ++ [t] := by
 rcases List.eq_nil_or_concat l with h | ⟨p, t, h⟩
 · exact .inl h
 · exact .inr ⟨p, t, by simpa using h⟩
theorem lay_len (l : List Sp) (s : Sp) : l.length ≤ (lay l s).length ∧ (lay l s).length ≤ l.length + 1 := by
 by_cases h : s.2 ≤ s.1
 · rw [lay_empty h]; omega
 · rcases snoc_cases l with rfl | ⟨p, t, rfl⟩
   · rw [lay_first h]; simp
   · by_cases h2 : s.1 ≤ t.2
     · rw [lay_grow h h2]; simp
     · rw [lay_more h h2]; simp
theorem lay_plain {l : List Sp} {s : Sp} (hp : Plain l) (hs : ∀ t ∈ l, t.1 ≤ s.1) :
   Plain (lay l s) ∧ (∀ n, hasB (lay l s) n = (hasB l n || spB s n)) ∧ ∀ t ∈ lay l s, t.1 ≤ s.1 := by
 by_cases h : s.2 ≤ s.1
 · rw [lay_empty h]
   refine ⟨hp, fun n => ?_, hs⟩
   have : spB s n = false := by
     cases hh : spB s n
     · rfl
     · have := spB_iff.mp hh; omega
   rw [this, Bool.or_false]
 · rcases snoc_cases l with rfl | ⟨p, t, rfl⟩
   · rw [lay_first h]
     refine ⟨plain_cons.mpr ⟨by simp, by omega, plain_nil⟩, fun n => by simp [hasB], by simp⟩
   · obtain ⟨h1, h2, h3⟩ := plain_snoc.mp hp
     have ht := hs t (by simp)
     by_cases h4 : s.1 ≤ t.2
     · rw [lay_grow h h4]
       refine ⟨plain_snoc.mpr ⟨h1, by show t.1 < max t.2 s.2; omega, h3⟩, fun n => ?_, ?_⟩
       · rw [hasB_append, hasB_append, Bool.or_assoc]
         congr 1
         apply bool_ext
         rw [Bool.or_eq_true, spB_iff]
         simp only [hasB, List.any_cons, List.any_nil, Bool.or_false, spB_iff]
         omega
       · intro u hu
         rcases List.mem_append.mp hu with hu | hu
         · exact hs u (by simp [hu])
         · simp at hu; subst hu; exact ht
     · rw [lay_more h h4]
       refine ⟨plain_snoc.mpr ⟨?_, by omega, hp⟩, fun n => ?_, ?_⟩
       · intro u hu
         rcases List.mem_append.mp hu with hu | hu
         · have := h1 u hu; omega
         · simp at hu; subst hu; omega
       · rw [hasB_append]
         congr 1
         simp [hasB]
       · intro u hu
         rcases List.mem_append.mp hu with hu | hu
         · exact hs u hu
         · simp at hu; subst hu; exact Int.le_refl _
/-- All ends are ints. -/
def AllI (l : List Sp) : Prop := ∀ s ∈ l, I64 s.1 ∧ I64 s.2
theorem lay_all {l : List Sp} {s : Sp} (h : AllI l) (h1 : I64 s.1) (h2 : I64 s.2) : AllI (lay l s) := by
 by_cases h0 : s.2 ≤ s.1
 · rw [lay_empty h0]; exact h
 · rcases snoc_cases l with rfl | ⟨p, t, rfl⟩
   · rw [lay_first h0]; intro u hu; simp at hu; subst hu; exact ⟨h1, h2⟩
   · by_cases h4 : s.1 ≤ t.2
     · rw [lay_grow h0 h4]
       intro u hu
       rcases List.mem_append.mp hu with hu | hu
       · exact h u (by simp [hu])
       · simp at hu; subst hu
         have := h t (by simp)
         refine ⟨this.1, ?_⟩
         show I64 (max t.2 s.2)
         obtain ⟨_, _⟩ := this.2; obtain ⟨_, _⟩ := h2
         exact ⟨by omega, by omega⟩
     · rw [lay_more h0 h4]
       intro u hu
       rcases List.mem_append.mp hu with hu | hu
       · exact h u hu
       · simp at hu; subst hu; exact ⟨h1, h2⟩

open Go.RowKit

/-- Is the place on the sheet? -/
def inB (r c : Int) : Bool := decide (1 ≤ r) && decide (r ≤ 1000) && decide (1 ≤ c) && decide (c ≤ 52)
def colB (c : Int) : Bool := decide (1 ≤ c) && decide (c ≤ 52)
/-- Has a rectangle any places; how many; is a place one of them? -/
def canR (p q u v : Int) : Bool := inB p q && inB u v && decide (p ≤ u) && decide (q ≤ v)
def areaR (p q u v : Int) : Int := if canR p q u v then (u - p + 1) * (v - q + 1) else 0
def hasR (p q u v r c : Int) : Bool := canR p q u v && decide (p ≤ r) && decide (r ≤ u) && decide (q ≤ c) && decide (c ≤ v)
theorem can_bd {p q u v : Int} (h : canR p q u v = true) : 1 ≤ p ∧ p ≤ u ∧ u ≤ 1000 ∧ 1 ≤ q ∧ q ≤ v ∧ v ≤ 52 := by
 unfold canR inB at h; simp at h; omega
theorem area_bd (p q u v : Int) : 0 ≤ areaR p q u v ∧ areaR p q u v ≤ 52000 ∧ (areaR p q u v = 0 ↔ canR p q u v = false) := by
 unfold areaR
 cases h : canR p q u v
 · simp
 · obtain ⟨h1, h2, h3, h4, h5, h6⟩ := can_bd h
   rw [if_pos rfl]
   have a1 : 1 ≤ u - p + 1 := by omega
   have a2 : u - p + 1 ≤ 1000 := by omega
   have b1 : 1 ≤ v - q + 1 := by omega
   have b2 : v - q + 1 ≤ 52 := by omega
   generalize u - p + 1 = m at *
   generalize v - q + 1 = n at *
   have l1 : 1 * 1 ≤ m * n := Int.mul_le_mul a1 b1 (by omega) (by omega)
   have l2 : m * n ≤ 1000 * 52 := Int.mul_le_mul a2 b2 (by omega) (by omega)
   refine ⟨by omega, by omega, ?_⟩
   constructor
   · intro e; omega
   · intro e; cases e

open Go.RowKit

abbrev Pl := Int × Int
def pin (a : Pl) : Bool := inB a.1 a.2
theorem pin_bd {a : Pl} (h : pin a = true) : 1 ≤ a.1 ∧ a.1 ≤ 1000 ∧ 1 ≤ a.2 ∧ a.2 ≤ 52 := by unfold pin inB at h; simp at h; omega
structure Rc where
 p : Int
 q : Int
 u : Int
 v : Int
deriving DecidableEq
instance : Inhabited Rc := ⟨⟨0, 0, 0, 0⟩⟩
def Rc.can (x : Rc) : Bool := canR x.p x.q x.u x.v
def Rc.has (x : Rc) (a : Pl) : Bool := hasR x.p x.q x.u x.v a.1 a.2
abbrev Ent := Pl × List Rc
abbrev Sg := List Ent
def setS (σ : Sg) (a : Pl) (l : List Rc) : Sg := if pin a then σ.filter (fun e => e.1 != a) ++ [(a, l.filter Rc.can)] else σ
def needS : Sg → Pl → List Rc
 | [], _ => []
 | e :: σ, a => if e.1 == a then e.2 else needS σ a
structure SgOk (σ : Sg) : Prop where
 i : ∀ e ∈ σ, pin e.1 = true
 c : ∀ e ∈ σ, ∀ x ∈ e.2, x.can = true
 d : σ.Pairwise (fun e f => e.1 ≠ f.1)
theorem sg_nil : SgOk [] := ⟨by simp, by simp, List.Pairwise.nil⟩
/-- Which cells need a place. -/
def dirS (σ : Sg) (a : Pl) : List Pl := (σ.filter (fun e => e.2.any (fun x => x.has a))).map (·.1)
theorem mem_dir {σ : Sg} {a b : Pl} : b ∈ dirS σ a ↔ ∃ l, (b, l) ∈ σ ∧ ∃ x ∈ l, x.has a = true := by
 unfold dirS
 simp only [List.mem_map, List.mem_filter, List.any_eq_true]
 constructor
 · rintro ⟨⟨b', l⟩, ⟨h1, h2⟩, rfl⟩; exact ⟨l, h1, h2⟩
 · rintro ⟨l, h1, h2⟩; exact ⟨(b, l), ⟨h1, h2⟩, rfl⟩
theorem has_pin {x : Rc} {a : Pl} (h : x.has a = true) : pin a = true := by
 unfold Rc.has hasR at h
 simp only [Bool.and_eq_true, decide_eq_true_eq] at h
 obtain ⟨⟨⟨⟨h0, h1⟩, h2⟩, h3⟩, h4⟩ := h
 have := can_bd h0
 unfold pin inB
 simp
 omega
theorem dir_from {σ : Sg} {a b : Pl} (hb : b ∈ dirS σ a) : b ∈ σ.map (·.1) := by
 obtain ⟨l, h1, _⟩ := mem_dir.1 hb
 exact List.mem_map.2 ⟨_, h1, rfl⟩
theorem dir_out {σ : Sg} {a : Pl} (ha : pin a = false) : dirS σ a = [] := by
 refine List.eq_nil_iff_forall_not_mem.2 (fun b hb => ?_)
 obtain ⟨l, _, x, _, hx⟩ := mem_dir.1 hb
 rw [has_pin hx] at ha; cases ha
theorem dir_len (σ : Sg) (a : Pl) : (dirS σ a).length ≤ σ.length := by
 unfold dirS; rw [List.length_map]; exact List.length_filter_le _ _
theorem dir_nodup {σ : Sg} (h : SgOk σ) (a : Pl) : (dirS σ a).Pairwise (· ≠ ·) := by
 unfold dirS
 rw [List.pairwise_map]
 exact h.d.filter _
/-- What is reached from some places. -/
inductive Rch (σ : Sg) (l : List Pl) : Pl → Prop
 | base {a : Pl} (h : a ∈ l) (hp : pin a = true) : Rch σ l a
 | step {a b : Pl} (h : Rch σ l a) (hb : b ∈ dirS σ a) : Rch σ l b
theorem rch_from {σ : Sg} {l : List Pl} {a : Pl} (h : Rch σ l a) : a ∈ l ++ σ.map (·.1) := by
 cases h with
 | base h _ => exact List.mem_append_left _ h
 | step _ hb => exact List.mem_append_right _ (dir_from hb)
/-- In order. -/
def Ltp (x y : Pl) : Prop := x.1 < y.1 ∨ x.1 = y.1 ∧ x.2 < y.2
theorem ltp_irr (x : Pl) : ¬ Ltp x x := by unfold Ltp; omega
theorem ltp_trans {x y z : Pl} (h : Ltp x y) (g : Ltp y z) : Ltp x z := by unfold Ltp at *; omega
theorem ltp_tri (x y : Pl) : Ltp x y ∨ x = y ∨ Ltp y x := by
 have e : x = y ↔ x.1 = y.1 ∧ x.2 = y.2 := Prod.ext_iff
 rw [e]; unfold Ltp; omega
theorem ltp_one : ∀ {A L : List Pl}, A.Pairwise Ltp → L.Pairwise Ltp → (∀ x, x ∈ A ↔ x ∈ L) → A = L
 | [], [], _, _, _ => rfl
 | [], y :: l, _, _, h => by have := (h y).2 (by simp); cases this
 | x :: a, [], _, _, h => by have := (h x).1 (by simp); cases this
 | x :: a, y :: l, ha, hl, h => by
   obtain ⟨a1, a2⟩ := List.pairwise_cons.1 ha
   obtain ⟨l1, l2⟩ := List.pairwise_cons.1 hl
   have e : x = y := by
     rcases List.mem_cons.1 ((h x).1 (by simp)) with e | hx
     · exact e
     · rcases List.mem_cons.1 ((h y).2 (by simp)) with e | hy
       · exact e.symm
       · exact (ltp_irr _ (ltp_trans (a1 y hy) (l1 x hx))).elim
   subst e
   rw [ltp_one a2 l2 (fun z => ?_)]
   constructor
   · intro hz
     rcases List.mem_cons.1 ((h z).1 (by simp [hz])) with rfl | hz'
     · exact (ltp_irr _ (a1 _ hz)).elim
     · exact hz'
   · intro hz
     rcases List.mem_cons.1 ((h z).2 (by simp [hz])) with rfl | hz'
     · exact (ltp_irr _ (l1 _ hz)).elim
     · exact hz'
/-- Put among others in order. -/
def bef (a b : Pl) : Bool := decide (a.1 < b.1) || (a.1 == b.1 && decide (a.2 < b.2))
theorem bef_iff {a b : Pl} : bef a b = true ↔ Ltp a b := by unfold bef Ltp; simp
def ins : List Pl → Pl → List Pl
 | [], p => [p]
 | x :: l, p => if bef p x then p :: x :: l else x :: ins l p
def putP (l : List Pl) (p : Pl) : List Pl := if p ∈ l then l else ins l p
theorem ins_mem {l : List Pl} {p x : Pl} : x ∈ ins l p ↔ x = p ∨ x ∈ l := by
 induction l with
 | nil => simp [ins]
 | cons y l ih =>
   unfold ins
   split
   · simp
   · simp only [List.mem_cons, ih]
     constructor
     · rintro (h | h | h)
       · exact .inr (.inl h)
       · exact .inl h
       · exact .inr (.inr h)
     · rintro (h | h | h)
       · exact .inr (.inl h)
       · exact .inl h
       · exact .inr (.inr h)
theorem put_mem {l : List Pl} {p x : Pl} : x ∈ putP l p ↔ x = p ∨ x ∈ l := by
 unfold putP
 split
 · rename_i h
   constructor
   · exact .inr
   · rintro (rfl | h')
     · exact h
     · exact h'
 · exact ins_mem
theorem ins_any {t : List Pl} {p : Pl} (h : t.any (fun y => bef p y) = true) (x : Pl) : ins (t ++ [x]) p = ins t p ++ [x] := by
 induction t with
 | nil => simp at h
 | cons y t ih =>
   simp only [List.cons_append, ins]
   cases hy : bef p y
   · simp only [List.any_cons, hy, Bool.false_or] at h
     simp [ih h]
   · simp
theorem ins_no {t : List Pl} {p : Pl} (h : t.any (fun y => bef p y) = false) : ins t p = t ++ [p] := by
 induction t with
 | nil => rfl
 | cons y t ih =>
   simp only [List.any_cons, Bool.or_eq_false_iff] at h
   simp [ins, h.1, ih h.2]
theorem ins_now {t : List Pl} {p x : Pl} (h : t.any (fun y => bef p y) = false) (hx : bef p x = true) : ins (t ++ [x]) p = t ++ [p] ++ [x] := by
 induction t with
 | nil => simp [ins, hx]
 | cons y t ih =>
   simp only [List.any_cons, Bool.or_eq_false_iff] at h
   have := ih h.2
   simp only [List.append_assoc] at this ⊢
   simp [ins, h.1, this]
theorem ins_sorted {l : List Pl} {p : Pl} (hs : l.Pairwise Ltp) (hp : p ∉ l) : (ins l p).Pairwise Ltp := by
 induction l with
 | nil => simp [ins]
 | cons y l ih =>
   obtain ⟨h1, h2⟩ := List.pairwise_cons.1 hs
   unfold ins
   split
   · rename_i hb
     rw [bef_iff] at hb
     refine List.pairwise_cons.2 ⟨fun z hz => ?_, hs⟩
     rcases List.mem_cons.1 hz with rfl | hz
     · exact hb
     · exact ltp_trans hb (h1 z hz)
   · rename_i hb
     rw [bef_iff] at hb
     refine List.pairwise_cons.2 ⟨fun z hz => ?_, ih h2 (fun h => hp (by simp [h]))⟩
     rcases ins_mem.1 hz with rfl | hz
     · rcases ltp_tri y z with h | h | h
       · exact h
       · exact absurd h.symm (fun e => hp (by simp [e]))
       · exact absurd h hb
     · exact h1 z hz
theorem put_sorted {l : List Pl} {p : Pl} (hs : l.Pairwise Ltp) : (putP l p).Pairwise Ltp := by
 unfold putP
 split
 · exact hs
 · rename_i hp; exact ins_sorted hs hp
theorem ins_len (l : List Pl) (p : Pl) : (ins l p).length = l.length + 1 := by
 induction l with
 | nil => rfl
 | cons y l ih =>
   unfold ins
   split
   · simp
   · simp [ih]
theorem put_len (l : List Pl) (p : Pl) : l.length ≤ (putP l p).length ∧ (putP l p).length ≤ l.length + 1 := by
 unfold putP
 split
 · omega
 · rw [ins_len]; omega
theorem putAll_mem {m l : List Pl} {x : Pl} : x ∈ m.foldl putP l ↔ x ∈ l ∨ x ∈ m := by
 induction m generalizing l with
 | nil => simp
 | cons y m ih =>
   rw [List.foldl_cons, ih, put_mem, List.mem_cons]
   constructor
   · rintro ((h | h) | h)
     · exact .inr (.inl h)
     · exact .inl h
     · exact .inr (.inr h)
   · rintro (h | h | h)
     · exact .inl (.inr h)
     · exact .inl (.inl h)
     · exact .inr h
theorem putAll_sorted {m l : List Pl} (hs : l.Pairwise Ltp) : (m.foldl putP l).Pairwise Ltp := by
 induction m generalizing l with
 | nil => exact hs
 | cons y m ih => exact ih (put_sorted hs)
theorem ltp_ne {l : List Pl} (h : l.Pairwise Ltp) : l.Pairwise (· ≠ ·) := h.imp (fun {a b} (h : Ltp a b) (e : a = b) => ltp_irr b (by rw [e] at h; exact h))
/-- As many as there are to choose among. -/
theorem nodup_len : ∀ {A M : List Pl}, A.Pairwise (· ≠ ·) → (∀ x ∈ A, x ∈ M) → A.length ≤ M.length
 | [], _, _, _ => Nat.zero_le _
 | a :: A, M, h, hm => by
   obtain ⟨h1, h2⟩ := List.pairwise_cons.1 h
   have ha := hm a (by simp)
   have := nodup_len (M := M.erase a) h2 (fun x hx => (List.mem_erase_of_ne (fun e => h1 x hx e.symm)).2 (hm x (by simp [hx])))
   rw [List.length_erase_of_mem ha] at this
   have : 0 < M.length := List.length_pos_of_mem ha
   simp
   omega
/-- The rows that rectangles have in a column; in plain form; what a column is told of. -/
def rowsOf (l : List Rc) (c : Int) : List Sp := (l.filter (fun x => decide (x.q ≤ c) && decide (c ≤ x.v))).map (fun x => (x.p, x.u + 1))
open Classical in
noncomputable def nrm (l : List Sp) : List Sp := if h : ∃ r, Plain r ∧ ∀ n, hasB r n = hasB l n then Classical.choose h else []
theorem nrm_is {l r : List Sp} (h1 : Plain r) (h2 : ∀ n, hasB r n = hasB l n) : nrm l = r := by
 have h : ∃ r, Plain r ∧ ∀ n, hasB r n = hasB l n := ⟨r, h1, h2⟩
 unfold nrm
 rw [dif_pos h]
 have := Classical.choose_spec h
 exact plain_one this.1 h1 (fun n => (this.2 n).trans (h2 n).symm)
theorem nrm_nil : nrm [] = [] := nrm_is plain_nil (fun _ => rfl)
/-- A need: rows and a cell. -/
structure Nd where
 f : Int
 t : Int
 r : Int
 c : Int
instance : Inhabited Nd := ⟨⟨0, 0, 0, 0⟩⟩
def Nd.at (n : Nd) : Pl := (n.r, n.c)
def ndOf (a : Pl) (s : Sp) : Nd := ⟨s.1, s.2, a.1, a.2⟩
noncomputable def colS (σ : Sg) (c : Int) : List Nd := σ.flatMap (fun e => (nrm (rowsOf e.2 c)).map (ndOf e.1))
def showN (r : Int) (n : Nd) : Bool := decide (n.f ≤ r) && decide (r < n.t)
/-- What is shown of a place. -/
noncomputable def eachS (σ : Sg) (a : Pl) : List Pl := if pin a then ((colS σ a.2).filter (showN a.1)).map Nd.at else []
theorem plain_once : ∀ {l : List Sp} (_ : Plain l) (n : Int), (l.filter (fun s => spB s n)).length = if hasB l n then 1 else 0
 | [], _, _ => rfl
 | s :: l, h, n => by
   obtain ⟨h1, h2, h3⟩ := plain_cons.1 h
   have ih := plain_once h3 n
   rw [hasB_cons]
   cases hs : spB s n
   · simp [hs, ih]
   · have hn := (spB_iff.1 hs).2
     have h0 : hasB l n = false := by
       cases hb : hasB l n
       · rfl
       · obtain ⟨t, ht, h4, _⟩ := hasB_iff.1 hb
         have := h1 t ht
         omega
     rw [h0] at ih
     simp [hs]
     simpa using ih
/-- Norm leaves a plain form of every list that is asked for. -/
def NiceL (l : List Rc) : Prop := ∀ c, Plain (nrm (rowsOf l c)) ∧ (∀ n, hasB (nrm (rowsOf l c)) n = hasB (rowsOf l c) n) ∧ (nrm (rowsOf l c)).length ≤ l.length
def Nice (σ : Sg) : Prop := ∀ e ∈ σ, NiceL e.2
theorem rows_has {l : List Rc} (hl : ∀ x ∈ l, x.can = true) (a : Pl) : hasB (rowsOf l a.2) a.1 = l.any (fun x => x.has a) := by
 apply bool_ext
 rw [hasB_iff, List.any_eq_true]
 unfold rowsOf
 constructor
 · rintro ⟨s, hs, h1, h2⟩
   obtain ⟨x, hx, rfl⟩ := List.mem_map.1 hs
   obtain ⟨hx, hc⟩ := List.mem_filter.1 hx
   have := hl x hx
   simp only [Bool.and_eq_true, decide_eq_true_eq] at hc
   refine ⟨x, hx, ?_⟩
   unfold Rc.has hasR
   unfold Rc.can at this
   rw [this]
   simp at h1 h2 ⊢
   omega
 · rintro ⟨x, hx, h⟩
   unfold Rc.has hasR at h
   simp at h
   refine ⟨(x.p, x.u + 1), List.mem_map.2 ⟨x, List.mem_filter.2 ⟨hx, by simp; omega⟩, rfl⟩, ?_, ?_⟩
   · simp; omega
   · simp; omega
theorem each_one {a b : Pl} {l : List Sp} (h : Plain l) : ((l.map (ndOf b)).filter (showN a.1)).map Nd.at = if hasB l a.1 then [b] else [] := by
 have e : ((l.map (ndOf b)).filter (showN a.1)).map Nd.at = (l.filter (fun s => spB s a.1)).map (fun _ => b) := by
   rw [List.filter_map, List.map_map]
   congr 1
 rw [e]
 have := plain_once h a.1
 generalize l.filter (fun s => spB s a.1) = m at *
 cases hb : hasB l a.1
 · rw [hb] at this
   simp at this
   rw [this]; rfl
 · rw [hb] at this
   match m, this with
   | [x], _ => rfl
theorem each_dir {σ : Sg} (hs : SgOk σ) (hn : Nice σ) (a : Pl) : eachS σ a = dirS σ a := by
 unfold eachS
 cases hp : pin a
 · rw [dir_out hp]; rfl
 · simp only [if_true]
   unfold colS dirS
   have : ∀ τ : Sg, (∀ e ∈ τ, e ∈ σ) → ((τ.flatMap (fun e => (nrm (rowsOf e.2 a.2)).map (ndOf e.1))).filter (showN a.1)).map Nd.at = (τ.filter (fun e => e.2.any (fun x => x.has a))).map (·.1) := by
     intro τ
     induction τ with
     | nil => intro _; rfl
     | cons e τ ih =>
       intro hτ
       have he := hτ e (by simp)
       rw [List.flatMap_cons, List.filter_append, List.map_append, ih (fun f hf => hτ f (by simp [hf])), each_one (hn e he a.2).1, (hn e he a.2).2.1, rows_has (hs.c e he) a]
       cases h : e.2.any (fun x => x.has a)
       · simp [h]
       · simp [h]
   exact this σ (fun _ h => h)
def notAt (a : Pl) (x : Nd) : Bool := decide (x.at ≠ a)
def delS (σ : Sg) (a : Pl) : Sg := σ.filter (fun e => e.1 != a)
theorem nd_at (a : Pl) (s : Sp) : (ndOf a s).at = a := rfl
theorem flt_at {a b : Pl} (l : List Sp) : (l.map (ndOf b)).filter (notAt a) = if b = a then [] else l.map (ndOf b) := by
 split
 · rename_i h
   refine List.filter_eq_nil_iff.2 (fun x hx => ?_)
   obtain ⟨s, _, rfl⟩ := List.mem_map.1 hx
   simp [notAt, nd_at, h]
 · rename_i h
   refine List.filter_eq_self.2 (fun x hx => ?_)
   obtain ⟨s, _, rfl⟩ := List.mem_map.1 hx
   simp [notAt, nd_at, h]
theorem col_del (σ : Sg) (a : Pl) (c : Int) : colS (delS σ a) c = (colS σ c).filter (notAt a) := by
 unfold colS delS
 induction σ with
 | nil => rfl
 | cons e σ ih =>
   rw [List.flatMap_cons, List.filter_append, ← ih, flt_at]
   by_cases h : e.1 = a
   · simp [h]
   · rw [List.filter_cons_of_pos (by simpa using h), List.flatMap_cons, if_neg h]
theorem need_of {σ : Sg} (hs : SgOk σ) {e : Ent} (he : e ∈ σ) : needS σ e.1 = e.2 := by
 induction σ with
 | nil => cases he
 | cons f σ ih =>
   obtain ⟨h1, h2⟩ := List.pairwise_cons.1 hs.d
   unfold needS
   rcases List.mem_cons.1 he with rfl | he
   · simp
   · have hne : f.1 ≠ e.1 := h1 e he
     rw [if_neg (by simpa using hne)]
     exact ih ⟨fun e he => hs.i e (by simp [he]), fun e he => hs.c e (by simp [he]), h2⟩ he
theorem col_same {σ : Sg} (hs : SgOk σ) {a : Pl} (h : needS σ a = []) (c : Int) : (colS σ c).filter (notAt a) = colS σ c := by
 refine List.filter_eq_self.2 (fun x hx => ?_)
 obtain ⟨e, he, hx⟩ := List.mem_flatMap.1 hx
 obtain ⟨s, hs', rfl⟩ := List.mem_map.1 hx
 by_cases ha : e.1 = a
 · have := need_of hs he
   rw [ha, h] at this
   rw [← this] at hs'
   rw [show rowsOf [] c = [] from rfl, nrm_nil] at hs'
   cases hs'
 · simp [notAt, nd_at, ha]
theorem col_add (σ : Sg) (a : Pl) (l : List Rc) (c : Int) : colS (σ ++ [(a, l)]) c = colS σ c ++ (nrm (rowsOf l c)).map (ndOf a) := by
 unfold colS
 rw [List.flatMap_append]
 simp
theorem need_del (σ : Sg) (a x : Pl) : needS (delS σ a) x = if x = a then [] else needS σ x := by
 induction σ with
 | nil => simp [delS, needS]
 | cons e σ ih =>
   unfold delS at ih ⊢
   by_cases h : e.1 = a
   · rw [List.filter_cons_of_neg (by simpa using h), ih]
     by_cases hx : x = a
     · simp [hx]
     · rw [if_neg hx, if_neg hx, needS, if_neg (by simp; rintro rfl; exact hx h)]
   · rw [List.filter_cons_of_pos (by simpa using h), needS, ih, needS]
     by_cases he : e.1 = x
     · have hx : x ≠ a := fun e' => h (he.trans e')
       simp [he, hx]
     · simp [he]
theorem need_add {σ : Sg} {a : Pl} (h : ∀ e ∈ σ, e.1 ≠ a) (l : List Rc) (x : Pl) : needS (σ ++ [(a, l)]) x = if x = a then l else needS σ x := by
 induction σ with
 | nil =>
   by_cases hx : x = a
   · simp [needS, hx]
   · have : a ≠ x := Ne.symm hx
     simp [needS, hx, this]
 | cons e σ ih =>
   rw [List.cons_append, needS, ih (fun e he => h e (by simp [he])), needS]
   by_cases he : e.1 = x
   · have hx : x ≠ a := fun e' => h e (by simp) (he.trans e')
     simp [he, hx]
   · simp [he]
theorem del_ne (σ : Sg) (a : Pl) : ∀ e ∈ delS σ a, e.1 ≠ a := by
 intro e he
 simpa using (List.mem_filter.1 he).2
theorem sg_del {σ : Sg} (h : SgOk σ) (a : Pl) : SgOk (delS σ a) := ⟨fun e he => h.i e (List.mem_filter.1 he).1, fun e he => h.c e (List.mem_filter.1 he).1, h.d.filter _⟩
theorem del_len (σ : Sg) (a : Pl) : (delS σ a).length ≤ σ.length := List.length_filter_le _ _
theorem col_len {σ : Sg} (h : Nice σ) {m : Nat} (hm : ∀ e ∈ σ, e.2.length ≤ m) (c : Int) : (colS σ c).length ≤ σ.length * m := by
 induction σ with
 | nil => simp [colS]
 | cons e σ ih =>
   have h1 := (h e (by simp) c).2.2
   have h2 := hm e (by simp)
   have h3 := ih (fun e he => h e (by simp [he])) (fun e he => hm e (by simp [he]))
   unfold colS at *
   rw [List.flatMap_cons, List.length_append, List.length_map, List.length_cons, Nat.succ_mul]
   omega
theorem set_is {σ : Sg} {a : Pl} (h : pin a = true) (l : List Rc) : setS σ a l = delS σ a ++ [(a, l.filter Rc.can)] := by
 unfold setS
 rw [if_pos h]
 rfl
theorem lay_some : ∀ (m o : List Sp), m.Pairwise (fun s t => s.1 ≤ t.1) → Plain o → (∀ t ∈ o, ∀ s ∈ m, t.1 ≤ s.1) → ∃ p, Plain p ∧ (∀ n, hasB p n = (hasB o n || hasB m n)) ∧ p.length ≤ o.length + m.length
 | [], o, _, hp, _ => ⟨o, hp, fun n => by rw [hasB_nil, Bool.or_false], Nat.le_refl _⟩
 | s :: m, o, hs, hp, ho => by
   rw [List.pairwise_cons] at hs
   obtain ⟨l1, l2, l3⟩ := lay_plain hp (s := s) (fun t ht => ho t ht s (by simp))
   obtain ⟨p, p1, p2, p3⟩ := lay_some m (lay o s) hs.2 l1 (fun t ht u hu => Int.le_trans (l3 t ht) (hs.1 u hu))
   have := (lay_len o s).2
   exact ⟨p, p1, fun n => by rw [p2, l2, hasB_cons, Bool.or_assoc], by simp; omega⟩
theorem niceL (l : List Rc) : NiceL l := by
 intro c
 generalize hr : rowsOf l c = r
 have hrl : r.length ≤ l.length := by rw [← hr]; unfold rowsOf; rw [List.length_map]; exact List.length_filter_le _ _
 have hs : (r.mergeSort (fun s t => decide (s.1 ≤ t.1))).Pairwise (fun s t => s.1 ≤ t.1) := by
   have := List.pairwise_mergeSort (le := fun s t : Sp => decide (s.1 ≤ t.1)) (by intro a b c h1 h2; simp at *; omega) (by intro a b; simp; omega) r
   exact this.imp (fun h => by simpa using h)
 obtain ⟨p, p1, p2, p3⟩ := lay_some _ [] hs plain_nil (by simp)
 have p4 : ∀ n, hasB p n = hasB r n := fun n => by rw [p2, hasB_nil, Bool.false_or]; exact hasB_perm (List.mergeSort_perm r _) n
 rw [nrm_is p1 p4]
 refine ⟨p1, p4, ?_⟩
 simp at p3
 omega
theorem nice (σ : Sg) : Nice σ := fun e _ => niceL e.2
theorem need_none {σ : Sg} {a : Pl} (h : ∀ e ∈ σ, e.1 ≠ a) : needS σ a = [] := by
 induction σ with
 | nil => rfl
 | cons e σ ih =>
   unfold needS
   have h1 := h e (by simp)
   rw [if_neg (by simpa using h1)]
   exact ih (fun e he => h e (by simp [he]))
theorem sg_add {σ : Sg} (hs : SgOk σ) {a : Pl} (h : ∀ e ∈ σ, e.1 ≠ a) (hi : pin a = true) {l : List Rc} (hl : ∀ x ∈ l, x.can = true) : SgOk (σ ++ [(a, l)]) := by
 refine ⟨fun e he => ?_, fun e he x hx => ?_, ?_⟩
 · rcases List.mem_append.1 he with he | he
   · exact hs.i e he
   · simp at he; subst he; exact hi
 · rcases List.mem_append.1 he with he | he
   · exact hs.c e he x hx
   · simp at he; subst he; exact hl x hx
 · rw [List.pairwise_append]
   refine ⟨hs.d, List.pairwise_singleton _ _, fun e he f hf => ?_⟩
   simp at hf; subst hf
   exact h e he
theorem need_from {σ : Sg} {a : Pl} (h : needS σ a ≠ []) : ∃ e ∈ σ, e.2 = needS σ a := by
 induction σ with
 | nil => exact absurd rfl h
 | cons e σ ih =>
   by_cases he : e.1 = a
   · exact ⟨e, by simp, by simp [needS, he]⟩
   · have e2 : needS (e :: σ) a = needS σ a := by rw [needS, if_neg (by simpa using he)]
     rw [e2] at h ⊢
     obtain ⟨f, hf, h2⟩ := ih h
     exact ⟨f, by simp [hf], h2⟩
theorem col_pin {σ : Sg} (hs : SgOk σ) {c : Int} {s : Nd} (h : s ∈ colS σ c) : pin (s.r, s.c) = true := by
 obtain ⟨e, he, h⟩ := List.mem_flatMap.1 h
 obtain ⟨t, _, rfl⟩ := List.mem_map.1 h
 exact hs.i e he

open Go.RowKit
set_option maxHeartbeats 1000000

def cP (x : Pl) : List Value := [.int .i64 x.1, .int .i64 x.2]
def cR (x : Rc) : List Value := [.int .i64 x.p, .int .i64 x.q, .int .i64 x.u, .int .i64 x.v]
def cN (x : Nd) : List Value := [.int .i64 x.f, .int .i64 x.t, .int .i64 x.r, .int .i64 x.c]
theorem cP_len (x : Pl) : (cP x).length = 2 := rfl
theorem cR_len (x : Rc) : (cR x).length = 4 := rfl
theorem cN_len (x : Nd) : (cN x).length = 4 := rfl
theorem cP_one (x : Pl) : ∀ v ∈ cP x, v.oneCell' = true := by intro v hv; simp [cP] at hv; rcases hv with rfl | rfl <;> rfl
theorem cR_one (x : Rc) : ∀ v ∈ cR x, v.oneCell' = true := by intro v hv; simp [cR] at hv; rcases hv with rfl | rfl | rfl | rfl <;> rfl
theorem cN_one (x : Nd) : ∀ v ∈ cN x, v.oneCell' = true := by intro v hv; simp [cN] at hv; rcases hv with rfl | rfl | rfl | rfl <;> rfl
theorem elt_of {TS T : TypeId} {k bytes : Nat} {z : Value} (hu : Try.prog.underlying TS = some (.slice T)) (h1 : (Try.prog.info? T).isSome = true) (h2 : (Try.prog.info? T).bind (fun i => i.zero) = some z) (h3 : (Try.prog.info? T).map (fun i => (i.size, i.bytes)) = some (k, bytes)) (hz : z.cells.size = k) (hk : 0 < k) : Elt TS T k bytes := by
 refine ⟨hu, ?_, hk⟩
 cases h : Try.prog.info? T with
 | none => rw [h] at h1; cases h1
 | some i =>
   rw [h] at h2 h3
   simp at h2 h3
   exact ⟨i, _, rfl, h2, h3.1, h3.2, hz⟩
theorem eltP : Elt 34 24 2 16 := elt_of (z := .agg #[.int .i64 0, .int .i64 0]) Try.underlying34 (by kernel_rfl) (by kernel_rfl) (by kernel_rfl) rfl (by decide)
theorem eltR : Elt 29 32 4 32 := elt_of (z := .agg #[.int .i64 0, .int .i64 0, .int .i64 0, .int .i64 0]) Try.underlying29 (by kernel_rfl) (by kernel_rfl) (by kernel_rfl) rfl (by decide)
theorem eltN : Elt 55 74 4 32 := elt_of (z := .agg #[.int .i64 0, .int .i64 0, .int .i64 0, .int .i64 0]) Try.underlying55 (by kernel_rfl) (by kernel_rfl) (by kernel_rfl) rfl (by decide)
theorem eltC : Elt 48 60 3 40 := elt_of (z := .agg #[.int .i64 0, .int .i64 0, .slice none 0 0]) Try.underlying48 (by kernel_rfl) (by kernel_rfl) (by kernel_rfl) rfl (by decide)
abbrev RdP := RdG cP 2
abbrev RdR := RdG cR 4
abbrev RdN := RdG cN 4
theorem RdP.cell {W : World} {p : Option Addr} {n cp : Nat} {l : List Pl} (h : RdP W (.slice p n cp) l) {i : Nat} {x : Pl} (hi : l[i]? = some x) :
   ∃ b off, p = some ⟨b, off, none⟩ ∧ b < W.heap.size ∧ W.cell? ⟨b, off + i * 2, none⟩ = some (.int .i64 x.1) ∧ W.cell? ⟨b, off + i * 2 + 1, none⟩ = some (.int .i64 x.2) := by
 obtain ⟨b, off, h1, h2, h3⟩ := RdG.at h hi
 exact ⟨b, off, h1, h2, h3 0 _ rfl, h3 1 _ rfl⟩
theorem Rd4.cell {α : Type} {c : α → List Value} {W : World} {p : Option Addr} {n cp : Nat} {l : List α} (h : RdG c 4 W (.slice p n cp) l) {i : Nat} {x : α} (hi : l[i]? = some x) {u0 u1 u2 u3 : Value} (hx : c x = [u0, u1, u2, u3]) :
   ∃ b off, p = some ⟨b, off, none⟩ ∧ b < W.heap.size ∧ W.cell? ⟨b, off + i * 4, none⟩ = some u0 ∧ W.cell? ⟨b, off + i * 4 + 1, none⟩ = some u1 ∧ W.cell? ⟨b, off + i * 4 + 2, none⟩ = some u2 ∧ W.cell? ⟨b, off + i * 4 + 3, none⟩ = some u3 := by
 obtain ⟨b, off, h1, h2, h3⟩ := RdG.at h hi
 rw [hx] at h3
 exact ⟨b, off, h1, h2, h3 0 _ rfl, h3 1 _ rfl, h3 2 _ rfl, h3 3 _ rfl⟩
theorem eq_pl (x1 x2 y1 y2 : Int) (w : World) : Sem.run Try.prog (Op.equalIn 10000 24 (.agg #[.int .i64 x1, .int .i64 x2]) (.agg #[.int .i64 y1, .int .i64 y2])) w = .ok (x1 == y1 && x2 == y2) w := by
 have u3 := Try.underlying3
 have a3 := Try.isAgg3
 have z3 := Try.sizeOf3
 have hS : Try.prog.underlying 24 = some (.struct (Try.prog.fieldsOf 24)) := by kernel_rfl
 have hp : Try.prog.stoodInHeld 24 = false := by kernel_rfl
 rw [show (10000 : Nat) = 9999 + 1 from rfl, run_equalIn_agg w 9999 24 _ _ hS hp]
 simp only [Program.fieldsOf, Try.underlying24]
 go_simp
 by_cases h1 : x1 = y1 <;> by_cases h2 : x2 = y2 <;> simp [h1, h2]
theorem gd_pl (x y : Array Value) (op : BinOp) (a b : Operand) (w : World) : (eqGuard op 24 a b (.agg x) (.agg y)).run Try.prog w = .ok () w := run_eqGuard_agg w op 24 a b x y (by kernel_rfl)
theorem pl_eq (x y : Pl) : (x.1 == y.1 && x.2 == y.2) = decide (x = y) := by
 rw [Bool.eq_iff_iff]
 simp [Prod.ext_iff]
/-- A block that a Deps of package deps may turn; .. by its columns alone. -/
def dcO : Option Obj → Bool
 | some (.cells _ T _) => T == 74 || T == 58
 | _ => false
def dkO : Option Obj → Bool
 | some (.cells _ T _) => T == 74 || T == 58
 | some (.map _ _) => true
 | _ => false
theorem dc_dk {o : Option Obj} (h : dcO o = true) : dkO o = true := by
 unfold dcO at h
 unfold dkO
 split at h
 · exact h
 · cases h
/-- Nothing has turned but such blocks, from base on. -/
structure ExtF (dk : Option Obj → Bool) (base : Nat) (w w' : World) : Prop where
 os : w'.os = w.os
 tape : w'.tape = w.tape
 output : w'.output = w.output
 size : w.heap.size ≤ w'.heap.size
 block : ∀ k, k < w.heap.size → (dk w.heap[k]? = false ∨ k < base) → w'.heap[k]? = w.heap[k]?
abbrev ExtD (base : Nat) (w w' : World) : Prop := ExtF dkO base w w'
abbrev ExtC (base : Nat) (w w' : World) : Prop := ExtF dcO base w w'
section
variable {dk : Option Obj → Bool} {base : Nat}
theorem ExtF.refl (w : World) : ExtF dk base w w := ⟨rfl, rfl, rfl, Nat.le_refl _, fun _ _ _ => rfl⟩
theorem ExtF.trans {x y z : World} (h : ExtF dk base x y) (g : ExtF dk base y z) : ExtF dk base x z :=
 ⟨g.os.trans h.os, g.tape.trans h.tape, g.output.trans h.output, Nat.le_trans h.size g.size, fun k hk hs => by
   have e := h.block k hk hs
   exact (g.block k (Nat.lt_of_lt_of_le hk h.size) (by rw [e]; exact hs)).trans e⟩
theorem Ext.toF {w w' : World} (h : Ext w w') : ExtF dk base w w' := ⟨h.os, h.tape, h.output, h.size, fun k hk _ => h.block k hk⟩
theorem ExtF.ext {w0 w w' : World} (h : ExtF dk base w w') (e : Ext w0 w) (hb : w0.heap.size ≤ base) : Ext w0 w' :=
 ⟨h.os.trans e.os, h.tape.trans e.tape, h.output.trans e.output, Nat.le_trans e.size h.size, fun k hk => (h.block k (Nat.lt_of_lt_of_le hk e.size) (.inr (Nat.lt_of_lt_of_le hk hb))).trans (e.block k hk)⟩
theorem ExtF.grown {w w' : World} {r : Option Nat} (h : w.grownBy w' r) (hr : ∀ g, r = some g → base ≤ g ∧ dk w.heap[g]? = true) : ExtF dk base w w' :=
 ⟨h.os, h.tape, h.output, h.size, fun k hk hs => h.block k hk (fun e => by
   obtain ⟨h1, h2⟩ := hr k e.symm
   rcases hs with hs | hs
   · rw [h2] at hs; cases hs
   · omega)⟩
theorem ExtF.mono {dk' : Option Obj → Bool} (hd : ∀ o, dk o = true → dk' o = true) {w w' : World} (h : ExtF dk base w w') : ExtF dk' base w w' :=
 ⟨h.os, h.tape, h.output, h.size, fun k hk hs => h.block k hk (hs.imp (fun h' => by
   cases e : dk w.heap[k]? with
   | false => rfl
   | true => rw [hd _ e] at h'; cases h') id)⟩
theorem ExtF.set {w w' : World} (h : ExtF dk base w w') {p : Addr} (hp : base ≤ p.block) (hd : w.heap.size ≤ p.block ∨ dk w.heap[p.block]? = true) (u : Value) : ExtF dk base w (w'.setCell p u) := by
 refine ⟨h.os, h.tape, h.output, Nat.le_trans h.size (by simp [World.setCell]), fun k hk hs => ?_⟩
 refine Eq.trans ?_ (h.block k hk hs)
 have hne : k ≠ p.block := by
   rintro rfl
   rcases hd with hd | hd
   · omega
   · rcases hs with hs | hs
     · rw [hd] at hs; cases hs
     · omega
 unfold World.setCell
 simp [Array.getElem?_modify, hne.symm]
theorem RdG.dep {α : Type} {c : α → List Value} {k : Nat} {W W' : World} {v : Value} {l : List α} (h : RdG c k W v l) (e : ExtF dk base W W') (hb : ∀ a n cp, v = .slice (some a) n cp → l ≠ [] → dk W.heap[a.block]? = false ∨ a.block < base) : RdG c k W' v l := by
 obtain ⟨p, cp, rfl, _⟩ := h.form
 exact h.keep e.size (fun a ha hl hlt => e.block _ hlt (hb a _ _ (by rw [ha]) hl))
theorem own_dep {W W' : World} {bs n k : Nat} {T : TypeId} {v : Value} {xs : List Value} (h : W.ownsRow bs T k v n xs) (e : ExtF dk base W W') (hT : ∀ cur, dk (some (.cells cur T (0, 0))) = false) : W'.ownsRow bs T k v n xs := by
 refine ⟨h.1, ?_⟩
 rcases h.2 with h | ⟨g, cap, cur, h1, h2, h3, h4⟩
 · exact .inl h
 · exact .inr ⟨g, cap, cur, h1, h2, (e.block g (heap_lt h3) (.inl (by rw [h3]; exact hT cur))).trans h3, h4⟩
theorem own_keep {W W' : World} {bs n k : Nat} {T : TypeId} {v : Value} {xs : List Value} (h : W.ownsRow bs T k v n xs) (hk : ∀ g, v.ownBlock = some g → g < W.heap.size → W'.heap[g]? = W.heap[g]?) : W'.ownsRow bs T k v n xs := by
 refine ⟨h.1, ?_⟩
 rcases h.2 with h | ⟨g, cap, cur, rfl, h2, h3, h4⟩
 · exact .inl h
 · exact .inr ⟨g, cap, cur, rfl, h2, (hk g rfl (heap_lt h3)).trans h3, h4⟩
end

open Go.RowKit
open Go.Maps (Keyed)
set_option maxHeartbeats 1000000

theorem kLaw : Keyed Try.prog 24 := Keyed.of_law (deep_law_laid (m := 3) (by kernel_rfl) (by decide) (of_decide_eq_true (by kernel_rfl)) (by kernel_rfl) (by kernel_rfl))
theorem kType : Try.prog.keyType 24 = true := by kernel_rfl
theorem kCells : Try.prog.cellsOf 24 = 2 := by kernel_rfl
theorem kInt : Try.prog.cellsOf 3 = 1 := by kernel_rfl
theorem kSize : ∃ m, Try.prog.types.size = m + 1 := ⟨Try.prog.types.size - 1, by have : 0 < Try.prog.types.size := of_decide_eq_true (by kernel_rfl); omega⟩
def plc (r c : Int) : Value := .agg #[.int .i64 r, .int .i64 c]
def kl (r c : Int) : Lit := .string (keyBytes [.int .i64 r, .int .i64 c])
theorem wf_i64 {n : Int} (h : I64 n) : (Lit.int .i64 n).wf = true := WalkArith.wf_i64 (by unfold I64 at h; omega)
theorem key_mk (r c : Int) (hr : I64 r) (hc : I64 c) : keyOf Try.prog 24 (plc r c) = some (kl r c) := by
 obtain ⟨m, hm⟩ := kSize
 unfold keyOf plc
 simp only [Try.underlying24]
 rw [if_pos (by simp [kType, Value.formed, Try.underlying24, kCells]), hm]
 unfold Program.keyLits
 simp only [Try.underlying24, Value.cells]
 rw [if_pos (by rw [kCells]; simp)]
 simp [Program.keyLits, kInt, Try.underlying3, wf_i64 hr, wf_i64 hc, kl]
theorem kl_inj {r c r' c' : Int} (hr : I64 r) (hc : I64 c) (hr' : I64 r') (hc' : I64 c') (h : kl r c = kl r' c') : r = r' ∧ c = c' := by
 have h1 := key_mk r c hr hc
 have h2 := key_mk r' c' hr' hc'
 rw [← h] at h2
 have := kLaw.inj h1 h2
 unfold plc at this
 simp at this
 exact this
/-- An element reads as itself. -/
def hR (v : Value) : Option (DataW Value × List MemPlace) := some (.held v, [])
abbrev OwR (W : World) (base : Nat) (v : Value) (l : List Rc) : Prop := W.ownsRow base 32 4 v l.length (l.flatMap cR)
/-- What cells need, in the map of block g. -/
def RelN (W : World) (base : Nat) (D : DataW Value) (M : Pl → List Rc) : Prop := ∀ r c, I64 r → I64 c → ∃ v, D.atKey (kl r c) (.held (.slice none 0 0)) = .held v ∧ OwR W base v (M (r, c))
def MapS (W : World) (base n : Nat) (g : Option Nat) (M : Pl → List Rc) : Prop :=
 match g with
 | none => ∀ a, M a = []
 | some g => base ≤ g ∧ ∃ D, W.ownsMap Try.prog 24 hR g n D ∧ RelN W base D M
theorem RelN.keep {W W' : World} {base : Nat} {D : DataW Value} {M : Pl → List Rc} (h : RelN W base D M) {dk : Option Obj → Bool} {b' : Nat} (e : ExtF dk b' W W') (hT : ∀ cur, dk (some (.cells cur 32 (0, 0))) = false) : RelN W' base D M := fun r c hr hc => by
 obtain ⟨v, h1, h2⟩ := h r c hr hc
 exact ⟨v, h1, own_dep h2 e hT⟩
theorem MapS.keep {W W' : World} {base n : Nat} {g : Option Nat} {M : Pl → List Rc} (h : MapS W base n g M) {b' : Nat} (e : ExtC b' W W') : MapS W' base n g M := by
 cases g with
 | none => exact h
 | some g =>
   obtain ⟨h0, D, ⟨es, clock, hb, r⟩, hR⟩ := h
   refine ⟨h0, D, ⟨es, clock, ?_, r⟩, hR.keep e (fun _ => rfl)⟩
   exact (e.block g (heap_lt hb) (.inl (by rw [hb]; rfl))).trans hb
theorem zeroSl (W : World) : (zeroValue 29).run Try.prog W = .ok (.slice none 0 0) W := by kernel_rfl
theorem MapS.look {W : World} {base n : Nat} {g : Option Nat} {M : Pl → List Rc} (h : MapS W base n g M) (r c : Int) (hr : I64 r) (hc : I64 c) : ∃ v, (∀ V, Ext W V → (Instr.lookup 54 (.map g) (.agg #[.int .i64 r, .int .i64 c]) false).run Try.prog V = .ok v V) ∧ OwR W base v (M (r, c)) := by
 cases g with
 | none =>
   refine ⟨_, fun V _ => Maps.look_nil false kLaw Try.underlying54 (zeroSl V) (key_mk r c hr hc), ?_⟩
   rw [show M (r, c) = [] from h _]
   exact ⟨by simp, .inl ⟨rfl, rfl⟩⟩
 | some g =>
   obtain ⟨_, D, ⟨es, clock, hb, rr⟩, h2⟩ := h
   obtain ⟨v', h5, h6⟩ := h2 r c hr hc
   refine ⟨v', fun V e => ?_, h6⟩
   have hV : V.ownsMap Try.prog 24 hR g n D := ⟨es, clock, (e.block g (heap_lt hb)).trans hb, rr⟩
   obtain ⟨v, ps, h3, h4⟩ := hV.lookup kLaw Try.underlying54 (zeroSl V) (zd := .held (.slice none 0 0)) (zp := []) rfl (key_mk r c hr hc)
   rw [h5] at h4
   unfold hR at h4
   simp at h4
   rw [← h4.1]
   exact h3
def putM (M : Pl → List Rc) (a : Pl) (l : List Rc) : Pl → List Rc := fun x => if x = a then l else M x
theorem RelN.put {W : World} {base : Nat} {D : DataW Value} {M : Pl → List Rc} (h : RelN W base D M) (hD : Maps.IsMap D) (r c : Int) (hr : I64 r) (hc : I64 c) (v : Value) (l : List Rc) (hv : OwR W base v l) : RelN W base (D.put (kl r c) (.held v)) (putM M (r, c) l) := by
 have hk := kLaw.key (key_mk r c hr hc)
 intro r' c' hr' hc'
 by_cases e : r' = r ∧ c' = c
 · obtain ⟨rfl, rfl⟩ := e
   refine ⟨v, Maps.atKey_put_same hD hk _ _, ?_⟩
   unfold putM
   rw [if_pos rfl]
   exact hv
 · have hne : kl r' c' ≠ kl r c := fun he => e (kl_inj hr' hc' hr hc he)
   obtain ⟨v', h1, h2⟩ := h r' c' hr' hc'
   refine ⟨v', by rw [Maps.atKey_put_other hne]; exact h1, ?_⟩
   unfold putM
   rw [if_neg (fun h => e (by simpa using h))]
   exact h2
theorem RelN.del {W : World} {base : Nat} {D : DataW Value} {M : Pl → List Rc} (h : RelN W base D M) (r c : Int) (hr : I64 r) (hc : I64 c) : RelN W base (D.del (kl r c)) (putM M (r, c) []) := by
 intro r' c' hr' hc'
 by_cases e : r' = r ∧ c' = c
 · obtain ⟨rfl, rfl⟩ := e
   refine ⟨.slice none 0 0, Maps.atKey_del_same .., ?_⟩
   unfold putM
   rw [if_pos rfl]
   exact ⟨by simp, .inl ⟨rfl, rfl⟩⟩
 · have hne : kl r' c' ≠ kl r c := fun he => e (kl_inj hr' hc' hr hc he)
   obtain ⟨v', h1, h2⟩ := h r' c' hr' hc'
   refine ⟨v', by rw [Maps.atKey_del_other hne]; exact h1, ?_⟩
   unfold putM
   rw [if_neg (fun h => e (by simpa using h))]
   exact h2
/-- The columns: f tells what each holds. -/
structure Cols (W : World) (base b : Nat) (g : Option Nat) (vs : List Value) (f : Nat → List Nd) : Prop where
 blk : ∃ cur, W.heap[b]? = some (.cells cur 58 (0, 0)) ∧ cur.toList = .map g :: vs
 len : vs.length = 53
 bb : base ≤ b
 row : ∀ (c : Nat) v, vs[c]? = some v → W.ownsRow base 74 4 v (f c).length ((f c).flatMap cN)
 sep : ∀ (c c' : Nat) v v' q, c ≠ c' → vs[c]? = some v → vs[c']? = some v' → v.ownBlock = some q → v'.ownBlock ≠ some q
theorem own_heap {W : World} {base n k : Nat} {T : TypeId} {v : Value} {xs : List Value} (h : W.ownsRow base T k v n xs) {q : Nat} (hq : v.ownBlock = some q) : base ≤ q ∧ ∃ cur, W.heap[q]? = some (.cells cur T (0, 0)) := by
 rcases h.2 with ⟨rfl, _⟩ | ⟨g, cap, cur, rfl, h2, h3, _⟩
 · cases hq
 · cases hq
   exact ⟨h2, cur, h3⟩
section
variable {W W' : World} {base b : Nat} {g : Option Nat} {vs : List Value} {f : Nat → List Nd}
theorem Cols.cell (h : Cols W base b g vs f) {c : Nat} {v : Value} (hv : vs[c]? = some v) : W.cell? ⟨b, 1 + c, none⟩ = some v := by
 obtain ⟨cur, h1, h2⟩ := h.blk
 rw [cell_of_row W b _ cur _ (0, 0) h1, ← Array.getElem?_toList, h2, Nat.add_comm]
 exact hv
theorem Cols.cell0 (h : Cols W base b g vs f) : W.cell? ⟨b, 0, none⟩ = some (.map g) := by
 obtain ⟨cur, h1, h2⟩ := h.blk
 rw [cell_of_row W b _ cur _ (0, 0) h1, ← Array.getElem?_toList, h2]
 rfl
theorem Cols.fz (h : Cols W base b g vs f) (o : Nat) : W.frozen? ⟨b, o, none⟩ = false := by
 obtain ⟨cur, h1, _⟩ := h.blk
 exact frozen_of_row W b o cur _ h1
theorem Cols.lt (h : Cols W base b g vs f) : b < W.heap.size := by obtain ⟨cur, h1, _⟩ := h.blk; exact heap_lt h1
theorem Cols.keep (h : Cols W base b g vs f) (e : ∀ k, k < W.heap.size → dcO W.heap[k]? = true → W'.heap[k]? = W.heap[k]?) : Cols W' base b g vs f := by
 obtain ⟨cur, h1, h2⟩ := h.blk
 refine ⟨⟨cur, (e b (heap_lt h1) (by rw [h1]; rfl)).trans h1, h2⟩, h.len, h.bb, fun c v hv => own_keep (h.row c v hv) (fun q hq hlt => ?_), h.sep⟩
 obtain ⟨_, cur, h3⟩ := own_heap (h.row c v hv) hq
 exact e q hlt (by rw [h3]; rfl)
theorem Cols.ext (h : Cols W base b g vs f) (e : Ext W W') : Cols W' base b g vs f := h.keep (fun k hk _ => e.block k hk)
theorem Cols.ne (h : Cols W base b g vs f) {c : Nat} {v : Value} (hv : vs[c]? = some v) : v.ownBlock ≠ some b := fun e => by
 obtain ⟨_, cur, h3⟩ := own_heap (h.row c v hv) e
 obtain ⟨cur', h1, _⟩ := h.blk
 rw [h1] at h3
 cases h3
/-- A column is written anew. -/
theorem Cols.upd (h : Cols W base b g vs f) {c : Nat} {v v' : Value} (hv : vs[c]? = some v) {l : List Nd} (hg : W.grownBy W' v.ownBlock) (ho : W'.ownsRow base 74 4 v' l.length (l.flatMap cN)) (hn : v'.ownBlock = v.ownBlock ∨ ∃ q, v'.ownBlock = some q ∧ W.heap.size ≤ q) :
   Cols (W'.setCell ⟨b, 1 + c, none⟩ v') base b g (vs.set c v') (fun x => if x = c then l else f x) ∧ ExtC base W (W'.setCell ⟨b, 1 + c, none⟩ v') := by
 have hc : c < vs.length := (List.getElem?_eq_some_iff.1 hv).1
 obtain ⟨cur, h1, h2⟩ := h.blk
 have hb1 : W'.heap[b]? = some (.cells cur 58 (0, 0)) := (hg.block b (heap_lt h1) (fun e => h.ne hv e.symm)).trans h1
 have hne : v'.ownBlock ≠ some b := fun e => by
   obtain ⟨_, cur', h3⟩ := own_heap ho e
   rw [hb1] at h3
   cases h3
 have hset : ∀ k, k ≠ b → (W'.setCell ⟨b, 1 + c, none⟩ v').heap[k]? = W'.heap[k]? := fun k hk => heap_setCell_other W' ⟨b, 1 + c, none⟩ k v' hk
 have old : ∀ (x : Nat) u q, x ≠ c → vs[x]? = some u → u.ownBlock = some q → q < W.heap.size ∧ q ≠ b ∧ v'.ownBlock ≠ some q ∧ W'.heap[q]? = W.heap[q]? := fun x u q hx hu hq => by
   obtain ⟨_, cur', h3⟩ := own_heap (h.row x u hu) hq
   have hq2 : v.ownBlock ≠ some q := fun e => h.sep c x v u q (Ne.symm hx) hv hu e hq
   refine ⟨heap_lt h3, fun e => h.ne hu (by rw [hq, e]), fun e => ?_, hg.block q (heap_lt h3) (fun e => hq2 e.symm)⟩
   rcases hn with hn | ⟨q', hn, hs⟩
   · exact hq2 (hn ▸ e)
   · rw [hn] at e
     cases e
     have := heap_lt h3
     omega
 refine ⟨⟨⟨cur.setIfInBounds (1 + c) v', Lib.heap_setCell_same hb1 v', ?_⟩, by simp [h.len], h.bb, fun x u hu => ?_, fun x y u u' q hxy hu hu' hq => ?_⟩, ?_⟩
 · rw [Array.toList_setIfInBounds, h2, Nat.add_comm]; rfl
 · by_cases hx : x = c
   · subst hx
     rw [List.getElem?_set_self hc] at hu
     cases hu
     simp only [if_true]
     exact own_keep ho (fun q hq _ => hset q (fun e => hne (by rw [hq, e])))
   · rw [List.getElem?_set_ne (Ne.symm hx)] at hu
     simp only [if_neg hx]
     refine own_keep (h.row x u hu) (fun q hq _ => ?_)
     obtain ⟨_, k2, _, k4⟩ := old x u q hx hu hq
     exact (hset q k2).trans k4
 · by_cases hx : x = c
   · subst hx
     rw [List.getElem?_set_self hc] at hu
     cases hu
     rw [List.getElem?_set_ne hxy] at hu'
     intro e
     exact (old y u' q (Ne.symm hxy) hu' e).2.2.1 hq
   · rw [List.getElem?_set_ne (Ne.symm hx)] at hu
     by_cases hy : y = c
     · subst hy
       rw [List.getElem?_set_self hc] at hu'
       cases hu'
       exact (old x u q hx hu hq).2.2.1
     · rw [List.getElem?_set_ne (Ne.symm hy)] at hu'
       exact h.sep x y u u' q hxy hu hu' hq
 · refine ExtF.set (ExtF.grown hg (fun q hq => ?_)) h.bb (.inr (by rw [h1]; rfl)) v'
   obtain ⟨k1, cur', k2⟩ := own_heap (h.row c v hv) hq
   exact ⟨k1, by rw [k2]; rfl⟩
/-- The whole array is loaded. -/
theorem Cols.load (h : Cols W base b g vs f) : (Instr.loadAt 56 (.pointer (some ⟨b, 1, none⟩))).run Try.prog W = .ok (.agg vs.toArray) W := by
 have a := Try.isAgg56 W
 have hl := run_loadCells_list (P := Try.prog) (w := W) ⟨b, 1, none⟩ vs (fun j v hj => by rw [Addr.add_lit]; exact h.cell hj)
 rw [h.len] at hl
 simp [Instr.loadAt, Instr.sureAddr, loadVar, a, hl]
end
/-- A load, an index, at the operation, by an equation. -/
theorem wpList_loadT {P : Program} (w : World) {ops : Array Oper} {rest : List Oper} {o : Oper} {a : Act} {Q : Exit → Act → World → Prop} (hg : o.guard = none) (x : Operand) (t : TypeId) (hop : o.op = Op.load t x)
   (xv v : Value) (hx : a.eval x = xv) (hrun : (Instr.loadAt t xv).run P w = .ok v w) (hK : wpList P ops Q rest (a.put o.dst v) w) : wpList P ops Q (o :: rest) a w := by
 refine wpList_plain hg fun K' hK' => ?_
 unfold Oper.wp
 simp [execOp, hop, hx, hrun, Result.andThen]
 exact hK' _ _ hK
theorem wpList_idxT {P : Program} (w : World) {ops : Array Oper} {rest : List Oper} {o : Oper} {a : Act} {Q : Exit → Act → World → Prop} (hg : o.guard = none) (x i : Operand) (t : TypeId) (hop : o.op = Op.index t x i)
   (xv iv v : Value) (hx : a.eval x = xv) (hi : a.eval i = iv) (hrun : (Instr.index t xv iv).run P w = .ok v w) (hK : wpList P ops Q rest (a.put o.dst v) w) : wpList P ops Q (o :: rest) a w := by
 refine wpList_plain hg fun K' hK' => ?_
 unfold Oper.wp
 simp [execOp, hop, hx, hi, hrun, Result.andThen]
 exact hK' _ _ hK
theorem run_idx53 (W : World) (vs : List Value) (hl : vs.length = 53) (k : Nat) (v : Value) (hv : vs[k]? = some v) : (Instr.index 56 (.agg vs.toArray) (.int .i64 (k : Int))).run Try.prog W = .ok v W := by
 have hk : k < 53 := by rw [← hl]; exact (List.getElem?_eq_some_iff.1 hv).1
 have u := Try.underlying56
 have z := Try.sizeOf55 W
 unfold Instr.index
 simp [run_underlying u, part, asIntOf, z, hv]
 omega
theorem step_delete {P : Program} {ops : Array Oper} {o : Oper} {a : Act} {w : World} {K : Act → World → Prop} {Q : Exit → Act → World → Prop} {E : Prop}
   (hg : o.guard = none) (m x : Operand) (t k : TypeId) (hop : o.op = Op.call { callee := Callee.builtin Builtin.delete, args := #[m, x], argTypes := #[t, k] }) (mv xv : Value) (hm : a.eval m = mv) (hx : a.eval x = xv) (w' : World)
   (hrun : (Builtin.delete_ #[t, k] o.type #[mv, xv]).run P w = .ok (.tuple #[]) w') (hK : K (a.put o.dst (.tuple #[])) w') : if Region.wanted o (yielded ops a.tmps) = true then Oper.wp P o a w K Q else E := by
 have hw : Region.wanted o (yielded ops a.tmps) = true := by simp [Region.wanted, hg]
 rw [if_pos hw]
 unfold Oper.wp
 simp [execOp, hop, resolve, invoke, builtin, hm, hx, hrun, Result.andThen]
 exact hK
theorem step_update {P : Program} {ops : Array Oper} {o : Oper} {a : Act} {w : World} {K : Act → World → Prop} {Q : Exit → Act → World → Prop} {E : Prop}
   (hg : o.guard = none) (m x v : Operand) (t : TypeId) (hop : o.op = Op.mapUpdate t m x v) (mv xv vv : Value) (hm : a.eval m = mv) (hx : a.eval x = xv) (hv : a.eval v = vv) (w' : World)
   (hrun : (Instr.mapUpdate t mv xv vv).run P w = .ok () w') (hK : K (a.put o.dst undef) w') : if Region.wanted o (yielded ops a.tmps) = true then Oper.wp P o a w K Q else E := by
 have hw : Region.wanted o (yielded ops a.tmps) = true := by simp [Region.wanted, hg]
 rw [if_pos hw]
 unfold Oper.wp
 simp [execOp, hop, hm, hx, hv, hrun, Result.andThen]
 exact hK
theorem grown_drew {W2 w9 : World} {row : Option Nat} (h : W2.drew.grownBy w9 row) : W2.grownBy w9 row := ⟨h.os, h.tape, h.output, h.size, h.block⟩
/-- A Deps of package deps: block b. -/
structure Dps (W : World) (base b : Nat) (g : Option Nat) (n : Nat) (vs : List Value) (σ : Sg) : Prop where
 cols : Cols W base b g vs (fun c => colS σ (c : Int))
 map : MapS W base n g (needS σ)
 ok : SgOk σ
 few : ∀ e ∈ σ, e.2.length ≤ 20
 n : σ.length ≤ n
theorem MapS.ext {W W' : World} {base n : Nat} {g : Option Nat} {M : Pl → List Rc} (h : MapS W base n g M) (e : Ext W W') : MapS W' base n g M := h.keep (b' := 0) (e.toF (dk := dcO) (base := 0))
theorem Dps.ext {W W' : World} {base b n : Nat} {g : Option Nat} {vs : List Value} {σ : Sg} (h : Dps W base b g n vs σ) (e : Ext W W') : Dps W' base b g n vs σ := ⟨h.cols.ext e, h.map.ext e, h.ok, h.few, h.n⟩
theorem MapS.congr {W : World} {base n : Nat} {g : Option Nat} {M M' : Pl → List Rc} (h : MapS W base n g M) (e : ∀ a, M' a = M a) : MapS W base n g M' := by
 have : M' = M := funext e
 rw [this]; exact h
theorem Cols.congr {W : World} {base b : Nat} {g : Option Nat} {vs : List Value} {f f' : Nat → List Nd} (h : Cols W base b g vs f) (e : ∀ c, c < 53 → f' c = f c) : Cols W base b g vs f' :=
 ⟨h.blk, h.len, h.bb, fun c v hv => by rw [e c (by rw [← h.len]; exact (List.getElem?_eq_some_iff.1 hv).1)]; exact h.row c v hv, h.sep⟩
theorem pin_i {a : Pl} (h : pin a = true) : I64 a.1 ∧ I64 a.2 := by have := pin_bd h; exact ⟨⟨by omega, by omega⟩, ⟨by omega, by omega⟩⟩
theorem map_block {W : World} {base n : Nat} {g : Nat} {M : Pl → List Rc} (h : MapS W base n (some g) M) : base ≤ g ∧ ∃ es cl, W.heap[g]? = some (.map es cl) := by
 obtain ⟨h0, D, ⟨es, clock, hb, _⟩, _⟩ := h
 exact ⟨h0, es, clock, hb⟩
/-- What was not in the columns' blocks, nor in the map's, is there yet. -/
theorem Cols.turn {W w9 : World} {base b q : Nat} {g : Option Nat} {vs : List Value} {f : Nat → List Nd} (h : Cols W base b g vs f) (hg : W.grownBy w9 (some q)) (hq : dcO W.heap[q]? = false) : Cols w9 base b g vs f :=
 h.keep (fun k hk hd => hg.block k hk (fun e => by cases e; rw [hq] at hd; cases hd))
theorem wpList_look {P : Program} (w : World) {ops : Array Oper} {rest : List Oper} {o : Oper} {a : Act} {Q : Exit → Act → World → Prop} (hg : o.guard = none) (m x : Operand) (t : TypeId) (hop : o.op = Op.lookup t m x false)
   (mv xv v : Value) (hm : a.eval m = mv) (hx : a.eval x = xv) (hrun : (Instr.lookup t mv xv false).run P w = .ok v w) (hK : wpList P ops Q rest (a.put o.dst v) w) : wpList P ops Q (o :: rest) a w := by
 refine wpList_plain hg fun K' hK' => ?_
 unfold Oper.wp
 simp [execOp, hop, hm, hx, hrun, Result.andThen]
 exact hK' _ _ hK
end Go.Proofs.Ytjpiphnbadggoaa
