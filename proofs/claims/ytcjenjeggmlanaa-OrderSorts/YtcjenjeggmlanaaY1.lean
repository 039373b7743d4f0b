/-
 Plain arithmetic of 64 and 128 bits for the walks over package fix and the document's answers: no program in sight.
 Lists in memory of the call's own, of whatever elements: append.
 Lists of structs in memory, whatever their fields: read, owned, sorted.
 What a walk over things finds, whose groups are whole: plain data.
 Lists of numbers in memory; a search's own block and rows.
 A heap as a list: plain data.
 Package order's queue, and container/heap over it.
 container/heap over package order's queue: down, Push, Pop.
-/
import Derived.WalkKit
import Derived.WalkSpells
import Derived.Deep.QuietTactic
import Derived.BigQuiet
import Derived.Shelf.Spec.BitsCarry
import Derived.Deep.RegionHeld3
import Derived.Test.YtcjenjeggmlanaaProg
import Derived.Deep.AppendLies
import Derived.Laws.OwnMore
import Derived.WalkLawsBesides
import Derived.Lib.AppendZeros
import Derived.Laws.StructEq
import Derived.Deep.DeepCutAuto
import Derived.Deep.Light
import Derived.Deep.CutBlock
namespace Go.Proofs.Ytcjenjeggmlanaa
open Go.RowKit

/-- An int64. -/
def I64 (a : Int) : Prop := -9223372036854775808 ≤ a ∧ a ≤ 9223372036854775807
theorem i64_of_wf {x : Int} (h : (Lit.int .i64 x).wf = true) : I64 x := by
 simp [Lit.wf, IntKind.min, IntKind.max, IntKind.signed, IntKind.bits] at h
 exact ⟨by omega, by omega⟩
theorem ret_bool {a b : Bool} (h : a = b) : Ending.returned (.bool a) = .returned (.bool b) := by rw [h]
/-- The world behind a call: of what was there nothing has turned. -/
def Ext (w w' : World) : Prop := Below w.heap.size w w'
theorem Ext.refl (w : World) : Ext w w := Below.refl _ _
theorem Ext.trans {a b c : World} (h : Ext a b) (k : Ext b c) : Ext a c := Below.trans h (Below.mono k h.size)
theorem Ext.drew {a w : World} (h : Ext a w) : Ext a w.drew := Below.drew h
theorem Ext.drewN {a w : World} (h : Ext a w) (n : Nat) : Ext a (w.drewN n) := h.trans ⟨rfl, rfl, rfl, Nat.le_refl _, fun _ _ => rfl⟩
theorem Ext.alloc {a w : World} (h : Ext a w) (o : Obj) : Ext a (w.alloc o) := Below.alloc h h.size o
theorem Ext.setCell {a w : World} (h : Ext a w) {p : Addr} (hp : a.heap.size ≤ p.block) (u : Value) : Ext a (w.setCell p u) := Below.setCell h hp u
theorem Ext.cell {w w1 : World} (hb : Ext w w1) : (∀ b o, b < w.heap.size → w1.cell? ⟨b, o, none⟩ = w.cell? ⟨b, o, none⟩) ∧ (∀ b o, b < w.heap.size → w1.frozen? ⟨b, o, none⟩ = w.frozen? ⟨b, o, none⟩) :=
 ⟨fun b o h => Below.cell hb (p := ⟨b, o, none⟩) h, fun b o h => Below.frozen hb (p := ⟨b, o, none⟩) h⟩
theorem Ext.sz {w w' : World} (h : Ext w w') : w.heap.size ≤ w'.heap.size := h.size

/-! ### For regions that draw their order: a pair of cells, and that of what was there nothing has turned -/

open Go.RowKit
set_option maxHeartbeats 1000000

/-- What the program says of an element's type. -/
structure Elt (TS T : TypeId) (k bytes : Nat) : Prop where
 u : Try.prog.underlying TS = some (.slice T)
 i : ∃ i z, Try.prog.info? T = some i ∧ i.zero = some z ∧ i.size = k ∧ i.bytes = bytes ∧ z.cells.size = k
 k0 : 0 < k
theorem ownsRow_ext {w w' : World} {base : Nat} {T : TypeId} {k n : Nat} {v : Value} {xs : List Value} (h : w.ownsRow base T k v n xs) (e : Ext w w') : w'.ownsRow base T k v n xs := by
 refine ⟨h.1, ?_⟩
 rcases h.2 with h | ⟨g, cap, cur, h1, h2, h3, h4⟩
 · exact .inl h
 · exact .inr ⟨g, cap, cur, h1, h2, (e.block g (Array.getElem?_eq_some_iff.1 h3).1).trans h3, h4⟩
theorem ownsRow_mono {w : World} {base base' : Nat} {T : TypeId} {k n : Nat} {v : Value} {xs : List Value} (h : w.ownsRow base T k v n xs) (e : base' ≤ base) : w.ownsRow base' T k v n xs := by
 refine ⟨h.1, ?_⟩
 rcases h.2 with h | ⟨g, cap, cur, h1, h2, h3⟩
 · exact .inl h
 · exact .inr ⟨g, cap, cur, h1, Nat.le_trans e h2, h3⟩
theorem ext_grownG {w W W' : World} {base : Nat} {T : TypeId} {k n : Nat} {v : Value} {xs : List Value} (hB : W.ownsRow base T k v n xs) (hb : w.heap.size ≤ base) (hE : Ext w W) (hg : W.grownBy W' v.ownBlock) : Ext w W' := by
 refine ⟨hg.os.trans hE.os, hg.tape.trans hE.tape, hg.output.trans hE.output, Nat.le_trans hE.size hg.size, fun q hq => ?_⟩
 refine (hg.block q (Nat.lt_of_lt_of_le hq hE.size) ?_).trans (hE.block q hq)
 intro e
 have := (hB.lt q e.symm).1
 omega
/-- A slice that is read: these cells lie in a row. -/
def RowC (W : World) (v : Value) (m : Nat) (k : Nat) (news : List Value) : Prop := news.length = m * k ∧ ∃ p c, v = .slice p m c ∧ ((p = none ∧ m = 0) ∨ ∃ ad, p = some ad ∧ ∀ j u, news[j]? = some u → W.cell? (ad.add j) = some u)
theorem run_append_noneG {TS T : TypeId} {k bytes : Nat} (hT : Elt TS T k bytes) (w : World) (ty : TypeId) (p : Option Addr) (n cap c : Nat) (h : n ≤ cap) :
   (Builtin.append_ #[TS, TS] ty #[.slice p n cap, .slice none 0 c]).run Try.prog w = .ok (.slice p n cap) w := by
 obtain ⟨i, z, hi, hz, h1, h2, h3⟩ := hT.i
 cases p with
 | none => simp [Builtin.append_, run_underlying hT.u, sizeOf, typeInfo, hi, Builtin.lenOf, Builtin.firstCells, h]
 | some a => simp [Builtin.append_, run_underlying hT.u, sizeOf, typeInfo, hi, Builtin.lenOf, Builtin.firstCells, loadCells, h, storeCells]
theorem own_form {W : World} {base : Nat} {T : TypeId} {k n : Nat} {v : Value} {xs : List Value} (h : W.ownsRow base T k v n xs) : ∃ p c, v = .slice p n c ∧ n ≤ c := by
 rcases h.2 with ⟨h, h0⟩ | ⟨g, cap, cur, h, _, _, h4, _⟩
 · exact ⟨none, 0, by rw [h, h0], by omega⟩
 · exact ⟨_, _, h, h4⟩
/-- A literal without elements. -/
theorem own_new {T : TypeId} {k : Nat} (w W : World) (h : w.heap.size ≤ W.heap.size) : (W.alloc (.cells #[] T)).ownsRow w.heap.size T k (.slice (some ⟨W.heap.size, 0, none⟩) 0 0) 0 [] :=
 ⟨by simp, .inr ⟨W.heap.size, 0, #[], rfl, h, by show (W.heap.push _)[W.heap.size]? = _; rw [Array.getElem?_push_size], Nat.le_refl _, by simp, by simp, by simp⟩⟩

open Go.RowKit
set_option maxHeartbeats 1000000

theorem gm_len {α : Type} {c : α → List Value} {k : Nat} (hc : ∀ x, (c x).length = k) (l : List α) : (l.flatMap c).length = l.length * k := by
 induction l with
 | nil => simp
 | cons x l ih => rw [List.flatMap_cons, List.length_append, hc, ih, List.length_cons, Nat.succ_mul]; omega
theorem gm_at {α : Type} {c : α → List Value} {k : Nat} (hc : ∀ x, (c x).length = k) : ∀ (l : List α) (i : Nat) (x : α) (j : Nat), l[i]? = some x → j < k → (l.flatMap c)[i * k + j]? = (c x)[j]?
 | [], i, x, j, h, _ => by simp at h
 | y :: l, 0, x, j, h, hj => by
   simp at h; subst h
   rw [List.flatMap_cons, Nat.zero_mul, Nat.zero_add, List.getElem?_append_left (by rw [hc]; exact hj)]
 | y :: l, i + 1, x, j, h, hj => by
   have ih := gm_at hc l i x j (by simpa using h) hj
   rw [List.flatMap_cons, List.getElem?_append_right (by rw [hc, Nat.succ_mul]; omega), hc, ← ih]
   congr 1
   rw [Nat.succ_mul]; omega
theorem gm_get {α : Type} {c : α → List Value} {k : Nat} (hc : ∀ x, (c x).length = k) (hk : 0 < k) (l : List α) (j : Nat) (u : Value) (h : (l.flatMap c)[j]? = some u) : ∃ x, l[j / k]? = some x ∧ (c x)[j % k]? = some u := by
 have hj : j < l.length * k := by rw [← gm_len hc]; exact (List.getElem?_eq_some_iff.1 h).1
 have hi : j / k < l.length := by rw [Nat.div_lt_iff_lt_mul hk]; exact hj
 refine ⟨l[j / k], List.getElem?_eq_getElem hi, ?_⟩
 rw [← gm_at hc l (j / k) _ (j % k) (List.getElem?_eq_getElem hi) (Nat.mod_lt _ hk), Nat.mul_comm, Nat.div_add_mod]
 exact h
/-- The slice v holds l. -/
def RdG {α : Type} (c : α → List Value) (k : Nat) (W : World) (v : Value) (l : List α) : Prop :=
 ∃ p cp, v = .slice p l.length cp ∧ l.length ≤ cp ∧ (l = [] ∨ ∃ b off, p = some ⟨b, off, none⟩ ∧ b < W.heap.size ∧ ∀ i x j u, l[i]? = some x → (c x)[j]? = some u → W.cell? ⟨b, off + i * k + j, none⟩ = some u)
section
variable {α : Type} {c : α → List Value} {k : Nat}
theorem RdG.len {W : World} {p : Option Addr} {n cp : Nat} {l : List α} (h : RdG c k W (.slice p n cp) l) : n = l.length := by
 obtain ⟨p', c', h1, _⟩ := h
 cases h1; rfl
theorem RdG.form {W : World} {v : Value} {l : List α} (h : RdG c k W v l) : ∃ p cp, v = .slice p l.length cp ∧ l.length ≤ cp := by
 obtain ⟨p, cp, h1, h2, _⟩ := h
 exact ⟨p, cp, h1, h2⟩
theorem RdG.keep {W W' : World} {p : Option Addr} {n cp : Nat} {l : List α} (h : RdG c k W (.slice p n cp) l) (hs : W.heap.size ≤ W'.heap.size) (hk : ∀ a, p = some a → l ≠ [] → a.block < W.heap.size → W'.heap[a.block]? = W.heap[a.block]?) : RdG c k W' (.slice p n cp) l := by
 obtain ⟨p', c', h1, h2, h3⟩ := h
 cases h1
 refine ⟨p, cp, rfl, h2, ?_⟩
 rcases h3 with h3 | ⟨b, off, rfl, h5, h6⟩
 · exact .inl h3
 · refine .inr ⟨b, off, rfl, Nat.lt_of_lt_of_le h5 hs, fun i x j u hi hj => ?_⟩
   have := h6 i x j u hi hj
   unfold World.cell? at this ⊢
   rw [show W'.heap[b]? = W.heap[b]? from hk _ rfl (fun e => by rw [e] at hi; simp at hi) h5]
   exact this
theorem RdG.ext {W W' : World} {v : Value} {l : List α} (h : RdG c k W v l) (e : Ext W W') : RdG c k W' v l := by
 obtain ⟨p, cp, h1, h2, h3⟩ := h
 refine ⟨p, cp, h1, h2, ?_⟩
 rcases h3 with h3 | ⟨b, off, h4, h5, h6⟩
 · exact .inl h3
 · exact .inr ⟨b, off, h4, Nat.lt_of_lt_of_le h5 e.size, fun i x j u hi hj => (e.cell.1 b _ h5).trans (h6 i x j u hi hj)⟩
theorem RdG.nil (W : World) : RdG c k W (.slice none 0 0) [] := ⟨none, 0, rfl, Nat.le_refl _, .inl rfl⟩
theorem RdG.at {W : World} {p : Option Addr} {n cp : Nat} {l : List α} (h : RdG c k W (.slice p n cp) l) {i : Nat} {x : α} (hi : l[i]? = some x) :
   ∃ b off, p = some ⟨b, off, none⟩ ∧ b < W.heap.size ∧ ∀ j u, (c x)[j]? = some u → W.cell? ⟨b, off + i * k + j, none⟩ = some u := by
 obtain ⟨p', c', h1, h2, h3⟩ := h
 cases h1
 rcases h3 with h3 | ⟨b, off, h4, h5, h6⟩
 · subst h3; simp at hi
 · exact ⟨b, off, h4, h5, fun j u hj => h6 i x j u hi hj⟩
theorem RdG.row (hc : ∀ x, (c x).length = k) (hk : 0 < k) {W : World} {v : Value} {l : List α} (h : RdG c k W v l) : RowC W v l.length k (l.flatMap c) := by
 obtain ⟨p, cp, h1, h2, h3⟩ := h
 refine ⟨gm_len hc l, p, cp, h1, ?_⟩
 rcases h3 with rfl | ⟨b, off, rfl, _, h6⟩
 · cases p with
   | none => exact .inl ⟨rfl, rfl⟩
   | some ad => exact .inr ⟨ad, rfl, fun j u hu => by simp at hu⟩
 · refine .inr ⟨_, rfl, fun j u hu => ?_⟩
   obtain ⟨r, hr, hu⟩ := gm_get hc hk l j u hu
   have := h6 _ r _ u hr hu
   rw [Addr.add_lit]
   rw [Nat.add_assoc, Nat.mul_comm, Nat.div_add_mod] at this
   exact this
/-- What is owned is read. -/
theorem own_rdG (hc : ∀ x, (c x).length = k) {W : World} {base : Nat} {T : TypeId} {v : Value} {l : List α} {n : Nat} (h : W.ownsRow base T k v n (l.flatMap c)) (hn : n = l.length) : RdG c k W v l := by
 subst hn
 rcases h.2 with ⟨rfl, h0⟩ | ⟨g, cap, cur, rfl, h2, h3, h4, h5⟩
 · have : l = [] := List.eq_nil_of_length_eq_zero h0
   subst this
   exact RdG.nil W
 · have hg : g < W.heap.size := (Array.getElem?_eq_some_iff.1 h3).1
   refine ⟨_, cap, rfl, h4, .inr ⟨g, 0, rfl, hg, fun i x j u hi hj => ?_⟩⟩
   have hj6 : j < k := by rw [← hc x]; exact (List.getElem?_eq_some_iff.1 hj).1
   have k' := h.cells (g := g) rfl (i * k + j) u (by rw [gm_at hc l i x j hi hj6]; exact hj)
   simp only [Addr.add_lit] at k'
   rw [Nat.add_assoc]
   exact k'
theorem RdG.part {W : World} {p : Option Addr} {n cp : Nat} {l : List α} (h : RdG c k W (.slice p n cp) l) (j : Nat) (hj : j ≤ l.length) : RdG c k W (.slice p j cp) (l.take j) := by
 obtain ⟨p', c', h1, h2, h3⟩ := h
 cases h1
 have hl : (l.take j).length = j := by simp; omega
 refine ⟨_, cp, by rw [hl], by rw [hl]; omega, ?_⟩
 rcases h3 with h3 | ⟨b', off', h4, h5, h6⟩
 · subst h3; exact .inl (by simp)
 · refine .inr ⟨b', off', h4, h5, fun i x q u hk hq => h6 i x q u ?_ hq⟩
   rw [List.getElem?_take] at hk
   split at hk
   · exact hk
   · cases hk
theorem gm_one (h1 : ∀ x, ∀ v ∈ c x, v.oneCell' = true) (l : List α) : ∀ u ∈ l.flatMap c, u.oneCell' = true := by
 intro u hu
 obtain ⟨r, _, hu⟩ := List.mem_flatMap.1 hu
 exact h1 r u hu
end
/-- append, at the operation; the row lies where it lay, or at the top. -/
theorem own_app2 {TS T : TypeId} {k bytes : Nat} (hT : Elt TS T k bytes) {ops : Array Oper} {rest : List Oper} {o : Oper} {a : Act} {Q : Exit → Act → World → Prop} (W : World) (s x : Operand) (v va : Value) (n m : Nat) (xs news : List Value) (base : Nat) (hgd : o.guard = none)
   (ho : o.op = .call { callee := .builtin .append, args := #[s, x], argTypes := #[TS, TS] })
   (hs : a.eval s = v) (hx : a.eval x = va) (hB : W.ownsRow base T k v n xs) (hR : RowC W va m k news) (h1c : ∀ u ∈ news, u.oneCell' = true) (hm : n + m ≤ maxLen) (hby : (n + m) * bytes ≤ 140737488355328) (hb2 : base ≤ W.heap.size)
   (h : ∀ v' W', W'.ownsRow base T k v' (n + m) (xs ++ news) → W.grownBy W' v.ownBlock → (v'.ownBlock = v.ownBlock ∨ v'.ownBlock = some W.heap.size) → wpList Try.prog ops Q rest (a.put o.dst v') W') : wpList Try.prog ops Q (o :: rest) a W := by
 obtain ⟨hl, p, c, rfl, hR⟩ := hR
 obtain ⟨i, z, hi, hz, h1, h2, h3⟩ := hT.i
 rcases hR with ⟨rfl, rfl⟩ | ⟨ad, rfl, hR⟩
 · have hn : news = [] := List.eq_nil_of_length_eq_zero (by simpa using hl)
   subst hn
   obtain ⟨p, cap, rfl, hc⟩ : ∃ p cap, v = .slice p n cap ∧ n ≤ cap := by
     rcases hB.2 with ⟨h, h0⟩ | ⟨g, cap, cur, h, _, _, h4, _⟩
     · exact ⟨none, 0, by rw [h, h0], by omega⟩
     · exact ⟨_, _, h, h4⟩
   refine Lib.wpList_append_run W hgd s x _ _ ho _ _ hs hx _ _ (run_append_noneG hT W o.type p n cap c hc) ?_
   exact h _ W (by simpa using hB) ⟨rfl, rfl, rfl, Nat.le_refl _, fun _ _ _ => rfl⟩ (.inl rfl)
 · refine wpList_append_own_at W hgd s x TS ho base T i z k bytes hT.u hi hz h1 h2 h3 hT.k0 v n xs hs hB ad m c news hx hl hR h1c hm hby hb2 ?_
   intro v' W' h3 h4 _ h5
   exact h v' W' h3 h4 h5
theorem top_heap (w : World) (o : Obj) : (w.alloc o).heap[w.heap.size]? = some o := by show (w.heap.push o)[w.heap.size]? = some o; simp
theorem heap_lt {w : World} {g : Nat} {o : Obj} (h : w.heap[g]? = some o) : g < w.heap.size := (Array.getElem?_eq_some_iff.1 h).1
theorem cells_heap {w w' : World} {k : Nat} (h : w'.heap[k]? = w.heap[k]?) (o : Nat) : w'.cell? ⟨k, o, none⟩ = w.cell? ⟨k, o, none⟩ ∧ w'.frozen? ⟨k, o, none⟩ = w.frozen? ⟨k, o, none⟩ := by
 unfold World.cell? World.frozen?
 simp only [h, and_self]
theorem wrapI (k : Nat) (h : k ≤ 1000000) : wrap64 ((k : Int) + 1) = ((k + 1 : Nat) : Int) := by unfold wrap64; omega
theorem take_at {α : Type} {l : List α} {k : Nat} {s : α} (h : l[k]? = some s) : l.take (k + 1) = l.take k ++ [s] := by
 rw [List.take_add_one, h]; rfl
/-- append of a list to one that is owned, at the operation. -/
theorem app_g {α : Type} {c : α → List Value} {TS T : TypeId} {k bytes : Nat} (hT : Elt TS T k bytes) (hc : ∀ x, (c x).length = k) (h1 : ∀ x, ∀ v ∈ c x, v.oneCell' = true) (hby : bytes ≤ 1000) {ops : Array Oper} {rest : List Oper} {o : Oper} {a : Act} {Q : Exit → Act → World → Prop} (W w : World) (s x : Operand) (v va : Value) (n m : Nat) (l news : List α) (base : Nat) (hgd : o.guard = none)
   (ho : o.op = .call { callee := .builtin .append, args := #[s, x], argTypes := #[TS, TS] })
   (hs : a.eval s = v) (hx : a.eval x = va) (hB : W.ownsRow base T k v n (l.flatMap c)) (hm : news.length = m) (hR : RdG c k W va news) (hl : n + m ≤ 1000000) (hE : Ext w W) (hb : w.heap.size ≤ base) (hb2 : base ≤ W.heap.size)
   (h : ∀ v' W', W'.ownsRow base T k v' (n + m) ((l ++ news).flatMap c) → Ext w W' → W.grownBy W' v.ownBlock → (v'.ownBlock = v.ownBlock ∨ v'.ownBlock = some W.heap.size) → wpList Try.prog ops Q rest (a.put o.dst v') W') : wpList Try.prog ops Q (o :: rest) a W := by
 subst hm
 refine own_app2 hT W s x v va n news.length (l.flatMap c) (news.flatMap c) base hgd ho hs hx hB (hR.row hc hT.k0) (gm_one h1 news) (by unfold maxLen; omega) (Nat.le_trans (Nat.mul_le_mul hl hby) (by decide)) hb2 ?_
 intro v' W' k1 k2 k3
 rw [← List.flatMap_append] at k1
 exact h v' W' k1 (ext_grownG hB hb hE k2) k2 k3
/-- A list of one, just built. -/
theorem RdG.one {α : Type} {c : α → List Value} {k : Nat} {W : World} {x : α} {b : Nat} {cur : Array Value} {T : TypeId} {fr : Nat × Nat} (hb : W.heap[b]? = some (.cells cur T fr)) (hx : ∀ (j : Nat) (u : Value), (c x)[j]? = some u → cur[j]? = some u) : RdG c k W (.slice (some ⟨b, 0, none⟩) 1 1) [x] := by
 refine ⟨_, 1, rfl, Nat.le_refl _, .inr ⟨b, 0, rfl, heap_lt hb, fun i y j u hi hj => ?_⟩⟩
 have hi0 : i = 0 := by have := (List.getElem?_eq_some_iff.1 hi).1; simp at this; omega
 subst hi0
 simp at hi
 subst hi
 rw [cell_of_row W b _ cur T fr hb, show 0 + 0 * k + j = j by omega]
 exact hx j u hj
theorem Ext.top {w w' : World} {o : Obj} (e : Ext (w.alloc o) w') : w'.heap[w.heap.size]? = some o := (e.block w.heap.size (by simp)).trans (top_heap w o)
/-- append in a region that draws its order. -/
theorem step_app {α : Type} {c : α → List Value} {TS T : TypeId} {k bytes : Nat} (hT : Elt TS T k bytes) (hc : ∀ x, (c x).length = k) (h1 : ∀ x, ∀ v ∈ c x, v.oneCell' = true) (hby : bytes ≤ 1000) {ops : Array Oper} {o : Oper} {a : Act} {K : Act → World → Prop} {Q : Exit → Act → World → Prop} {E : Prop} (W : World) (s x : Operand) (v : Value) (ad : Addr) (n m cp : Nat) (l news : List α) (base : Nat) (hgd : o.guard = none)
   (ho : o.op = .call { callee := .builtin .append, args := #[s, x], argTypes := #[TS, TS] })
   (hs : a.eval s = v) (hx : a.eval x = .slice (some ad) m cp) (hB : W.ownsRow base T k v n (l.flatMap c)) (hm : news.length = m) (hR : RdG c k W (.slice (some ad) m cp) news) (hl : n + m ≤ 1000000) (hb2 : base ≤ W.heap.size)
   (h : ∀ v' W', W'.ownsRow base T k v' (n + m) ((l ++ news).flatMap c) → W.grownBy W' v.ownBlock → (v'.ownBlock = v.ownBlock ∨ v'.ownBlock = some W.heap.size) → K (a.put o.dst v') W') : if Region.wanted o (yielded ops a.tmps) = true then Oper.wp Try.prog o a W K Q else E := by
 have hw : Region.wanted o (yielded ops a.tmps) = true := by simp [Region.wanted, hgd]
 rw [if_pos hw]
 subst hm
 obtain ⟨i, z, hi, hz, e1, e2, e3⟩ := hT.i
 obtain ⟨hln, p, cp', hv, hrow⟩ := hR.row hc hT.k0
 cases hv
 obtain ⟨ad', had, hrow⟩ : ∃ ad', some ad = some ad' ∧ ∀ j u, (news.flatMap c)[j]? = some u → W.cell? (ad'.add j) = some u := by
   rcases hrow with ⟨h0, _⟩ | h
   · cases h0
   · exact h
 cases had
 obtain ⟨v', W', hr, k1, k2, _, k3⟩ := run_append_own_at (P := Try.prog) (w := W) base TS o.type T i z k bytes hT.u hi hz e1 e2 e3 hT.k0 v n (l.flatMap c) hB ad news.length cp (news.flatMap c) hln hrow (gm_one h1 news) (by unfold maxLen; omega) (Nat.le_trans (Nat.mul_le_mul hl hby) (by decide)) hb2
 rw [← List.flatMap_append] at k1
 unfold Oper.wp
 simp [execOp, ho, resolve, invoke, builtin, hs, hx, hr, Result.andThen]
 exact h v' W' k1 k2 k3

/-- From a to b, along one pair or more. -/
inductive Rch (E : Nat → Nat → Prop) : Nat → Nat → Prop
 | one {a b : Nat} : E a b → Rch E a b
 | step {a b c : Nat} : E a b → Rch E b c → Rch E a c
theorem Rch.trans {E : Nat → Nat → Prop} {a b c : Nat} (h : Rch E a b) (k : Rch E b c) : Rch E a c := by
 induction h with
 | one e => exact .step e k
 | step e _ ih => exact .step e (ih k)
def RS (E : Nat → Nat → Prop) (a b : Nat) : Prop := a = b ∨ Rch E a b
theorem RS.refl (E : Nat → Nat → Prop) (a : Nat) : RS E a a := .inl rfl
theorem RS.trans {E : Nat → Nat → Prop} {a b c : Nat} (h : RS E a b) (k : RS E b c) : RS E a c := by
 rcases h with rfl | h
 · exact k
 · rcases k with rfl | k
   · exact .inr h
   · exact .inr (h.trans k)
theorem RS.one {E : Nat → Nat → Prop} {a b : Nat} (h : E a b) : RS E a b := .inr (.one h)
/-- Of one group. -/
def Con (E : Nat → Nat → Prop) (a b : Nat) : Prop := RS E a b ∧ RS E b a
theorem Con.refl (E : Nat → Nat → Prop) (a : Nat) : Con E a a := ⟨.refl E a, .refl E a⟩
theorem Con.symm {E : Nat → Nat → Prop} {a b : Nat} (h : Con E a b) : Con E b a := ⟨h.2, h.1⟩
theorem Con.trans {E : Nat → Nat → Prop} {a b c : Nat} (h : Con E a b) (k : Con E b c) : Con E a c := ⟨h.1.trans k.1, k.2.trans h.2⟩
/-- g is the least of v's group. -/
def Lst (E : Nat → Nat → Prop) (v g : Nat) : Prop := Con E v g ∧ ∀ u, Con E v u → g ≤ u
theorem Lst.one {E : Nat → Nat → Prop} {v g h : Nat} (a : Lst E v g) (b : Lst E v h) : g = h :=
 Nat.le_antisymm (a.2 _ b.1) (b.2 _ a.1)
theorem Lst.con {E : Nat → Nat → Prop} {v u g : Nat} (a : Lst E v g) (c : Con E v u) : Lst E u g :=
 ⟨c.symm.trans a.1, fun x hx => a.2 x (c.trans hx)⟩
theorem Lst.same {E : Nat → Nat → Prop} {v u g h : Nat} (a : Lst E v g) (b : Lst E u h) : g = h ↔ Con E v u :=
 ⟨fun e => by subst e; exact a.1.trans b.1.symm, fun c => (a.con c).one b⟩
/-- How many of n are nought. -/
def U (f : Nat → Nat) : Nat → Nat
 | 0 => 0
 | n + 1 => U f n + if f n = 0 then 1 else 0
def upd {α : Type} (f : Nat → α) (i : Nat) (x : α) : Nat → α := fun j => if j = i then x else f j
theorem upd_at {α : Type} (f : Nat → α) (i : Nat) (x : α) : upd f i x i = x := by simp [upd]
theorem upd_ne {α : Type} (f : Nat → α) {i j : Nat} (x : α) (h : j ≠ i) : upd f i x j = f j := by simp [upd, h]
theorem U_ge (f : Nat → Nat) {u x : Nat} : ∀ n, n ≤ u → U (upd f u x) n = U f n
 | 0, _ => rfl
 | n + 1, h => by
   unfold U
   rw [U_ge f n (by omega), upd_ne f x (by omega)]
theorem U_upd (f : Nat → Nat) {u x : Nat} (hu : f u = 0) (hx : x ≠ 0) : ∀ n, u < n → U (upd f u x) n + 1 = U f n
 | 0, h => absurd h (Nat.not_lt_zero _)
 | n + 1, h => by
   unfold U
   by_cases e : u = n
   · subst e
     rw [U_ge f u (Nat.le_refl _), upd_at, hu]
     simp [hx]
   · have := U_upd f hu hx n (by omega)
     rw [upd_ne f x (by omega)]
     omega
/-- Rising numbers from 1 to c are c at most. -/
theorem rise_len {f : Nat → Nat} {c : Nat} : ∀ l : List Nat, l.Pairwise (fun a b => f a < f b) → (∀ x ∈ l, f x ≤ c) → (∀ x ∈ l, 0 < f x) → l.length ≤ c
 | l, hp, hc, h0 => by
   have main : ∀ (l : List Nat) (m : Nat), l.Pairwise (fun a b => f a < f b) → (∀ x ∈ l, m < f x) → (∀ x ∈ l, f x ≤ c) → m ≤ c → l.length + m ≤ c := by
     intro l
     induction l with
     | nil => intro m _ _ _ h; simpa using h
     | cons a l ih =>
       intro m hp hm hc h
       rw [List.pairwise_cons] at hp
       have := ih (f a) hp.2 (fun x hx => hp.1 x hx) (fun x hx => hc x (List.mem_cons_of_mem _ hx)) (hc a (List.mem_cons_self ..))
       have := hm a (List.mem_cons_self ..)
       simp
       omega
   have := main l 0 hp h0 hc (Nat.zero_le _)
   omega

/-- Where the walk is. -/
structure S where
 gone : Nat → Nat
 met : Nat → Nat
 low : Nat → Nat
 cls : Nat → Int
 path : List Nat
 op : List Nat
 cnt : Nat
structure TI (adj : Nat → List Nat) (n : Nat) (σ : S) : Prop where
 ml : ∀ v, σ.met v ≠ 0 → v < n
 mc : ∀ v, σ.met v ≤ σ.cnt
 mi : ∀ u v, σ.met u = σ.met v → σ.met u ≠ 0 → u = v
 ct : σ.cnt + U σ.met n = n
 om : ∀ v, v ∈ σ.op ↔ σ.met v ≠ 0 ∧ σ.cls v < 0
 cm : ∀ v, 0 ≤ σ.cls v → σ.met v ≠ 0
 oo : σ.op.Pairwise (fun a b => σ.met a < σ.met b)
 pp : σ.path.Pairwise (fun a b => σ.met a < σ.met b)
 po : ∀ p ∈ σ.path, p ∈ σ.op
 gl : ∀ v, σ.gone v ≤ (adj v).length
 gu : ∀ v, σ.met v = 0 → σ.gone v = 0
 gd : ∀ v i u, i < σ.gone v → (adj v)[i]? = some u → σ.met u ≠ 0
 fin : ∀ v, σ.met v ≠ 0 → v ∉ σ.path → σ.gone v = (adj v).length
 fm : ∀ v ∈ σ.op, 0 < σ.low v ∧ σ.low v ≤ σ.met v
 fr : ∀ v ∈ σ.op, ∃ u ∈ σ.op, σ.met u = σ.low v ∧ RS (fun a b => b ∈ adj a) v u
 fe : ∀ v ∈ σ.op, ∀ i u, i < σ.gone v → (adj v)[i]? = some u → u ∈ σ.op → σ.low v ≤ σ.met u
 fn : ∀ v ∈ σ.op, v ∉ σ.path → σ.low v < σ.met v
 fp : ∀ v ∈ σ.op, v ∉ σ.path → ∃ p ∈ σ.path, σ.met p < σ.met v ∧ σ.low p ≤ σ.low v ∧ ∀ q ∈ σ.path, σ.met q ≤ σ.met v → σ.met q ≤ σ.met p
 pr : ∀ p ∈ σ.path, ∀ v ∈ σ.op, σ.met p ≤ σ.met v → RS (fun a b => b ∈ adj a) p v
 cl : ∀ v, 0 ≤ σ.cls v → ∀ u ∈ adj v, 0 ≤ σ.cls u
 cs : ∀ v, 0 ≤ σ.cls v → ∃ g : Nat, σ.cls v = g ∧ Lst (fun a b => b ∈ adj a) v g
def meetS (σ : S) (u : Nat) : S :=
 { σ with met := upd σ.met u (σ.cnt + 1), low := upd σ.low u (σ.cnt + 1), path := σ.path ++ [u], op := σ.op ++ [u], cnt := σ.cnt + 1 }
def bumpS (σ : S) (t : Nat) : S := { σ with gone := upd σ.gone t (σ.gone t + 1) }
def lowS (σ : S) (t x : Nat) : S := { σ with low := upd σ.low t (min (σ.low t) x) }
section
variable {adj : Nat → List Nat} {n : Nat} {σ : S}
theorem TI.opmet (h : TI adj n σ) {v : Nat} (hv : v ∈ σ.op) : σ.met v ≠ 0 := ((h.om v).1 hv).1
theorem TI.cnt_le (h : TI adj n σ) : σ.cnt ≤ n := by have := h.ct; omega
theorem TI.path_len (h : TI adj n σ) : σ.path.length ≤ n :=
 Nat.le_trans (rise_len σ.path h.pp (fun x _ => h.mc x) (fun x hx => Nat.pos_of_ne_zero (h.opmet (h.po x hx)))) h.cnt_le
theorem TI.op_len (h : TI adj n σ) : σ.op.length ≤ n :=
 Nat.le_trans (rise_len σ.op h.oo (fun x _ => h.mc x) (fun _ hx => Nat.pos_of_ne_zero (h.opmet hx))) h.cnt_le
theorem TI.op_nil (h : TI adj n σ) (hp : σ.path = []) : σ.op = [] := by
 cases ho : σ.op with
 | nil => rfl
 | cons v l =>
   have hv : v ∈ σ.op := by rw [ho]; exact List.mem_cons_self ..
   obtain ⟨p, hp', _⟩ := h.fp v hv (by rw [hp]; simp)
   rw [hp] at hp'
   cases hp'
/-- Nothing is met. -/
theorem TI.start (adj : Nat → List Nat) (n : Nat) (f : Nat → Nat) : TI adj n ⟨fun _ => 0, fun _ => 0, f, fun _ => -1, [], [], 0⟩ where
 ml := fun v h => absurd rfl h
 mc := fun v => Nat.le_refl _
 mi := fun u v _ h => absurd rfl h
 ct := by
   have : ∀ n, U (fun _ => 0) n = n := by
     intro n
     induction n with
     | zero => rfl
     | succ n ih => unfold U; rw [ih]; simp
   simp [this]
 om := by simp
 cm := by intro v h; simp at h; 
 oo := .nil
 pp := .nil
 po := by simp
 gl := fun v => Nat.zero_le _
 gu := fun v _ => rfl
 gd := fun v i u h => absurd h (Nat.not_lt_zero _)
 fin := fun v h => absurd rfl h
 fm := by simp
 fr := by simp
 fe := by simp
 fn := by simp
 fp := by simp
 pr := by simp
 cl := by intro v h; simp at h
 cs := by intro v h; simp at h
/-- A thing that is not met is met: the first, or one that the path's last needs. -/
theorem TI.meet (h : TI adj n σ) {u : Nat} (hu : u < n) (h0 : σ.met u = 0) (hg : ∀ t, σ.path.getLast? = some t → u ∈ adj t) : TI adj n (meetS σ u) := by
 have huo : u ∉ σ.op := fun hx => h.opmet hx h0
 have hup : u ∉ σ.path := fun hx => huo (h.po u hx)
 have mne : ∀ v, v ≠ u → (meetS σ u).met v = σ.met v := fun v hv => upd_ne _ _ hv
 have mat : (meetS σ u).met u = σ.cnt + 1 := upd_at _ _ _
 have lne : ∀ v, v ≠ u → (meetS σ u).low v = σ.low v := fun v hv => upd_ne _ _ hv
 have lat : (meetS σ u).low u = σ.cnt + 1 := upd_at _ _ _
 have one : ∀ v, v ∈ σ.op → v ≠ u := fun v hv e => huo (e ▸ hv)
 have pne : ∀ v, v ∈ σ.path → v ≠ u := fun v hv e => hup (e ▸ hv)
 have mop : ∀ v, v ∈ (meetS σ u).op ↔ v ∈ σ.op ∨ v = u := by intro v; simp [meetS]
 have mpa : ∀ v, v ∈ (meetS σ u).path ↔ v ∈ σ.path ∨ v = u := by intro v; simp [meetS]
 have clu : σ.cls u < 0 := by
   rcases Int.lt_or_le (σ.cls u) 0 with h' | h'
   · exact h'
   · exact absurd h0 (h.cm u h')
 -- each of the path leads to u
 have pru : ∀ p ∈ σ.path, RS (fun a b => b ∈ adj a) p u := by
   intro p hp
   cases hl : σ.path.getLast? with
   | none => rw [List.getLast?_eq_none_iff] at hl; rw [hl] at hp; cases hp
   | some t =>
     have ht : t ∈ σ.path := List.mem_of_getLast? hl
     have hle : σ.met p ≤ σ.met t := by
       obtain ⟨q, hq⟩ : ∃ q, σ.path = q ++ [t] := by
         obtain ⟨q, e⟩ := List.getLast?_eq_some_iff.1 hl
         exact ⟨q, e⟩
       have hpp := h.pp
       rw [hq] at hpp hp
       rw [List.pairwise_append] at hpp
       rcases List.mem_append.1 hp with h1 | h1
       · exact Nat.le_of_lt (hpp.2.2 p h1 t (by simp))
       · simp at h1; subst h1; exact Nat.le_refl _
     exact (h.pr p hp t (h.po t ht) hle).trans (.one (hg t hl))
 have lt1 : ∀ v, v ∈ σ.op → (meetS σ u).met v < σ.cnt + 1 := by
   intro v hv
   rw [mne v (one v hv)]
   have := h.mc v
   omega
 refine ⟨?_, ?_, ?_, ?_, ?_, ?_, ?_, ?_, ?_, h.gl, ?_, ?_, ?_, ?_, ?_, ?_, ?_, ?_, ?_, h.cl, h.cs⟩
 · intro v hv
   by_cases e : v = u
   · subst e; exact hu
   · rw [mne v e] at hv; exact h.ml v hv
 · intro v
   by_cases e : v = u
   · subst e; rw [mat]; exact Nat.le_refl _
   · rw [mne v e]; exact Nat.le_trans (h.mc v) (Nat.le_succ _)
 · intro a b hab ha
   by_cases ea : a = u
   · by_cases eb : b = u
     · rw [ea, eb]
     · rw [ea, mat, mne b eb] at hab
       have := h.mc b
       omega
   · by_cases eb : b = u
     · rw [eb, mat, mne a ea] at hab
       have := h.mc a
       omega
     · rw [mne a ea, mne b eb] at hab
       rw [mne a ea] at ha
       exact h.mi a b hab ha
 · have := U_upd σ.met h0 (x := σ.cnt + 1) (by omega) n hu
   have := h.ct
   show σ.cnt + 1 + U (upd σ.met u (σ.cnt + 1)) n = n
   omega
 · intro v
   rw [mop]
   by_cases e : v = u
   · subst e
     simp [mat]
     exact clu
   · rw [mne v e]
     simp only [e, or_false]
     exact h.om v
 · intro v hv
   by_cases e : v = u
   · subst e; rw [mat]; omega
   · rw [mne v e]; exact h.cm v hv
 · show (σ.op ++ [u]).Pairwise _
   rw [List.pairwise_append]
   refine ⟨h.oo.imp_of_mem (fun {a b} ha hb hab => ?_), List.pairwise_singleton _ _, fun a ha b hb => ?_⟩
   · rw [mne a (one a ha), mne b (one b hb)]; exact hab
   · simp at hb; subst hb; rw [mat]; exact lt1 a ha
 · show (σ.path ++ [u]).Pairwise _
   rw [List.pairwise_append]
   refine ⟨h.pp.imp_of_mem (fun {a b} ha hb hab => ?_), List.pairwise_singleton _ _, fun a ha b hb => ?_⟩
   · rw [mne a (pne a ha), mne b (pne b hb)]; exact hab
   · simp at hb; subst hb; rw [mat]; exact lt1 a (h.po a ha)
 · intro p hp
   rw [mop]
   rcases (mpa p).1 hp with h1 | h1
   · exact .inl (h.po p h1)
   · exact .inr h1
 · intro v hv
   by_cases e : v = u
   · subst e; exact h.gu v h0
   · rw [mne v e] at hv; exact h.gu v hv
 · intro v i x hi hx
   by_cases e : x = u
   · subst e; rw [mat]; omega
   · rw [mne x e]; exact h.gd v i x hi hx
 · intro v hv hp
   rw [mpa] at hp
   have e : v ≠ u := fun e => hp (.inr e)
   rw [mne v e] at hv
   exact h.fin v hv (fun hx => hp (.inl hx))
 · intro v hv
   rcases (mop v).1 hv with h1 | h1
   · rw [mne v (one v h1), lne v (one v h1)]; exact h.fm v h1
   · subst h1; rw [mat, lat]; omega
 · intro v hv
   rcases (mop v).1 hv with h1 | h1
   · obtain ⟨x, hx, e, r⟩ := h.fr v h1
     exact ⟨x, (mop x).2 (.inl hx), by rw [mne x (one x hx), lne v (one v h1)]; exact e, r⟩
   · subst h1
     exact ⟨v, (mop v).2 (.inr rfl), by rw [mat, lat], .refl _ _⟩
 · intro v hv i x hi hx hxo
   rcases (mop v).1 hv with h1 | h1
   · rw [lne v (one v h1)]
     rcases (mop x).1 hxo with h2 | h2
     · rw [mne x (one x h2)]
       exact h.fe v h1 i x hi hx h2
     · subst h2
       rw [mat]
       have := (h.fm v h1).2
       have := h.mc v
       omega
   · subst h1
     have : σ.gone v = 0 := h.gu v h0
     have hi' : i < σ.gone v := hi
     omega
 · intro v hv hp
   rcases (mop v).1 hv with h1 | h1
   · rw [mne v (one v h1), lne v (one v h1)]
     exact h.fn v h1 (fun hx => hp ((mpa v).2 (.inl hx)))
   · exact absurd ((mpa v).2 (.inr h1)) hp
 · intro v hv hp
   rcases (mop v).1 hv with h1 | h1
   · obtain ⟨p, hpp, h2, h3, h4⟩ := h.fp v h1 (fun hx => hp ((mpa v).2 (.inl hx)))
     refine ⟨p, (mpa p).2 (.inl hpp), ?_, ?_, fun q hq hle => ?_⟩
     · rw [mne p (pne p hpp), mne v (one v h1)]; exact h2
     · rw [lne p (pne p hpp), lne v (one v h1)]; exact h3
     · rw [mne p (pne p hpp)]
       rcases (mpa q).1 hq with h5 | h5
       · rw [mne q (pne q h5)] at hle ⊢
         rw [mne v (one v h1)] at hle
         exact h4 q h5 hle
       · subst h5
         rw [mat, mne v (one v h1)] at hle
         have := h.mc v
         omega
   · exact absurd ((mpa v).2 (.inr h1)) hp
 · intro p hp v hv hle
   rcases (mpa p).1 hp with h1 | h1
   · rcases (mop v).1 hv with h2 | h2
     · rw [mne p (pne p h1), mne v (one v h2)] at hle
       exact h.pr p h1 v h2 hle
     · subst h2; exact pru p h1
   · subst h1
     rcases (mop v).1 hv with h2 | h2
     · have := lt1 v h2
       rw [mat] at hle
       omega
     · subst h2; exact .refl _ _
/-- The path's last goes along one more of what it needs, which is met. -/
theorem TI.bump (h : TI adj n σ) {t u : Nat} (ht : t ∈ σ.path) (hx : (adj t)[σ.gone t]? = some u) (hu : σ.met u ≠ 0) (hc : u ∈ σ.op → σ.low t ≤ σ.met u) : TI adj n (bumpS σ t) := by
 have hlt : σ.gone t < (adj t).length := (List.getElem?_eq_some_iff.1 hx).1
 have gne : ∀ v, v ≠ t → (bumpS σ t).gone v = σ.gone v := fun v hv => upd_ne _ _ hv
 have gat : (bumpS σ t).gone t = σ.gone t + 1 := upd_at _ _ _
 have tm : σ.met t ≠ 0 := h.opmet (h.po t ht)
 refine ⟨h.ml, h.mc, h.mi, h.ct, h.om, h.cm, h.oo, h.pp, h.po, ?_, ?_, ?_, ?_, h.fm, h.fr, ?_, h.fn, h.fp, h.pr, h.cl, h.cs⟩
 · intro v
   by_cases e : v = t
   · subst e; rw [gat]; exact hlt
   · rw [gne v e]; exact h.gl v
 · intro v hv
   by_cases e : v = t
   · subst e; exact absurd hv tm
   · rw [gne v e]; exact h.gu v hv
 · intro v i x hi hx'
   by_cases e : v = t
   · subst e
     rw [gat] at hi
     by_cases e2 : i = σ.gone v
     · subst e2
       rw [hx] at hx'
       cases hx'
       exact hu
     · exact h.gd v i x (by omega) hx'
   · rw [gne v e] at hi; exact h.gd v i x hi hx'
 · intro v hv hp
   have e : v ≠ t := fun e => hp (e ▸ ht)
   rw [gne v e]
   exact h.fin v hv hp
 · intro v hv i x hi hx' hxo
   by_cases e : v = t
   · subst e
     rw [gat] at hi
     by_cases e2 : i = σ.gone v
     · subst e2
       rw [hx] at hx'
       cases hx'
       exact hc hxo
     · exact h.fe v hv i x (by omega) hx' hxo
   · rw [gne v e] at hi; exact h.fe v hv i x hi hx' hxo
/-- The path's last turns its low place. -/
theorem TI.lower (h : TI adj n σ) {t u : Nat} (ht : t ∈ σ.path) (huo : u ∈ σ.op) (hr : RS (fun a b => b ∈ adj a) t u) : TI adj n (lowS σ t (σ.met u)) := by
 have lne : ∀ v, v ≠ t → (lowS σ t (σ.met u)).low v = σ.low v := fun v hv => upd_ne _ _ hv
 have lat : (lowS σ t (σ.met u)).low t = min (σ.low t) (σ.met u) := upd_at _ _ _
 have lle : ∀ v, (lowS σ t (σ.met u)).low v ≤ σ.low v := by
   intro v
   by_cases e : v = t
   · subst e; rw [lat]; exact Nat.min_le_left _ _
   · rw [lne v e]; exact Nat.le_refl _
 have hto : t ∈ σ.op := h.po t ht
 refine ⟨h.ml, h.mc, h.mi, h.ct, h.om, h.cm, h.oo, h.pp, h.po, h.gl, h.gu, h.gd, h.fin, ?_, ?_, ?_, ?_, ?_, h.pr, h.cl, h.cs⟩
 · intro v hv
   refine ⟨?_, Nat.le_trans (lle v) (h.fm v hv).2⟩
   by_cases e : v = t
   · subst e
     rw [lat]
     have := (h.fm v hv).1
     have := Nat.pos_of_ne_zero (h.opmet huo)
     omega
   · rw [lne v e]; exact (h.fm v hv).1
 · intro v hv
   by_cases e : v = t
   · subst e
     rw [lat]
     by_cases c : σ.low v ≤ σ.met u
     · obtain ⟨x, hx, e, r⟩ := h.fr v hv
       exact ⟨x, hx, by rw [Nat.min_eq_left c]; exact e, r⟩
     · exact ⟨u, huo, by rw [Nat.min_eq_right (by omega)]; rfl, hr⟩
   · rw [lne v e]; exact h.fr v hv
 · intro v hv i x hi hx hxo
   exact Nat.le_trans (lle v) (h.fe v hv i x hi hx hxo)
 · intro v hv hp
   exact Nat.lt_of_le_of_lt (lle v) (h.fn v hv hp)
 · intro v hv hp
   obtain ⟨p, hpp, h2, h3, h4⟩ := h.fp v hv hp
   have e : v ≠ t := fun e => hp (e ▸ ht)
   exact ⟨p, hpp, h2, by rw [lne v e]; exact Nat.le_trans (lle p) h3, h4⟩
theorem last_top (h : TI adj n σ) {q : List Nat} {t : Nat} (hp : σ.path = q ++ [t]) : ∀ p ∈ σ.path, σ.met p ≤ σ.met t := by
 intro p hm
 have hpp := h.pp
 rw [hp] at hpp hm
 rw [List.pairwise_append] at hpp
 rcases List.mem_append.1 hm with h1 | h1
 · exact Nat.le_of_lt (hpp.2.2 p h1 t (by simp))
 · simp at h1; subst h1; exact Nat.le_refl _
theorem last_new (h : TI adj n σ) {q : List Nat} {t : Nat} (hp : σ.path = q ++ [t]) : ∀ p ∈ q, σ.met p < σ.met t := by
 intro p hm
 have hpp := h.pp
 rw [hp, List.pairwise_append] at hpp
 exact hpp.2.2 p hm t (by simp)
/-- The path's last is left, but leads to one that was met ahead of it. -/
theorem TI.leave_no (h : TI adj n σ) {q : List Nat} {b t : Nat} (hp : σ.path = q ++ [b] ++ [t]) (hg : σ.gone t = (adj t).length) (hl : σ.low t ≠ σ.met t) :
   TI adj n (lowS { σ with path := q ++ [b] } b (σ.low t)) := by
 have htp : t ∈ σ.path := by rw [hp]; simp
 have hbp : b ∈ σ.path := by rw [hp]; simp
 have hto := h.po t htp
 have hbo := h.po b hbp
 have hlt : ∀ p ∈ q ++ [b], σ.met p < σ.met t := last_new h hp
 have hbt : σ.met b < σ.met t := hlt b (by simp)
 have hne : b ≠ t := fun e => by subst e; exact Nat.lt_irrefl _ hbt
 have mpa : ∀ v, v ∈ σ.path ↔ v ∈ q ++ [b] ∨ v = t := by intro v; rw [hp, List.mem_append]; simp
 have htq : t ∉ q ++ [b] := fun hx => Nat.lt_irrefl _ (hlt t hx)
 have hqb : ∀ p ∈ q ++ [b], σ.met p ≤ σ.met b := by
   intro p hm
   have hpp := h.pp
   rw [hp, List.pairwise_append, List.pairwise_append] at hpp
   rcases List.mem_append.1 hm with h1 | h1
   · exact Nat.le_of_lt (hpp.1.2.2 p h1 b (by simp))
   · simp at h1; subst h1; exact Nat.le_refl _
 obtain ⟨x, hxo, hxe, hxr⟩ := h.fr t hto
 have hbr : RS (fun a b => b ∈ adj a) b x := (h.pr b hbp t hto (Nat.le_of_lt hbt)).trans hxr
 have ltl : σ.low t < σ.met t := by have := (h.fm t hto).2; omega
 generalize hσ : lowS { σ with path := q ++ [b] } b (σ.low t) = σ'
 have e1 : σ'.met = σ.met := by subst hσ; rfl
 have e2 : σ'.op = σ.op := by subst hσ; rfl
 have e3 : σ'.path = q ++ [b] := by subst hσ; rfl
 have e4 : σ'.gone = σ.gone := by subst hσ; rfl
 have e5 : σ'.cls = σ.cls := by subst hσ; rfl
 have e6 : σ'.cnt = σ.cnt := by subst hσ; rfl
 have lne : ∀ v, v ≠ b → σ'.low v = σ.low v := by subst hσ; exact fun v hv => upd_ne _ _ hv
 have lat : σ'.low b = min (σ.low b) (σ.low t) := by subst hσ; exact upd_at _ _ _
 have lle : ∀ v, σ'.low v ≤ σ.low v := by
   intro v
   by_cases e : v = b
   · subst e; rw [lat]; exact Nat.min_le_left _ _
   · rw [lne v e]; exact Nat.le_refl _
 clear hσ
 refine ⟨by rw [e1]; exact h.ml, by rw [e1, e6]; exact h.mc, by rw [e1]; exact h.mi, by rw [e1, e6]; exact h.ct, by rw [e1, e2, e5]; exact h.om, by rw [e1, e5]; exact h.cm, by rw [e1, e2]; exact h.oo, ?_, ?_, by rw [e4]; exact h.gl, by rw [e1, e4]; exact h.gu, by rw [e1, e4]; exact h.gd, ?_, ?_, ?_, ?_, ?_, ?_, ?_, by rw [e5]; exact h.cl, by rw [e5]; exact h.cs⟩
 · have hpp := h.pp
   rw [hp, List.pairwise_append] at hpp
   rw [e1, e3]
   exact hpp.1
 · rw [e2, e3]
   exact fun p hm => h.po p ((mpa p).2 (.inl hm))
 · rw [e1, e3, e4]
   intro v hv hn
   by_cases e : v = t
   · subst e; exact hg
   · exact h.fin v hv (fun hx => ((mpa v).1 hx).elim hn e)
 · rw [e1, e2]
   intro v hv
   refine ⟨?_, Nat.le_trans (lle v) (h.fm v hv).2⟩
   by_cases e : v = b
   · subst e
     rw [lat]
     have := (h.fm v hv).1
     have := (h.fm t hto).1
     omega
   · rw [lne v e]; exact (h.fm v hv).1
 · rw [e1, e2]
   intro v hv
   by_cases e : v = b
   · subst e
     rw [lat]
     by_cases c : σ.low v ≤ σ.low t
     · rw [Nat.min_eq_left c]
       exact h.fr v hv
     · rw [Nat.min_eq_right (by omega)]
       exact ⟨x, hxo, hxe, hbr⟩
   · rw [lne v e]; exact h.fr v hv
 · rw [e1, e2, e4]
   intro v hv i y hi hy hyo
   exact Nat.le_trans (lle v) (h.fe v hv i y hi hy hyo)
 · rw [e1, e2, e3]
   intro v hv hn
   by_cases e : v = t
   · subst e
     exact Nat.lt_of_le_of_lt (lle v) ltl
   · exact Nat.lt_of_le_of_lt (lle v) (h.fn v hv (fun hx => ((mpa v).1 hx).elim hn e))
 · rw [e1, e2, e3]
   intro v hv hn
   by_cases e : v = t
   · subst e
     refine ⟨b, by simp, hbt, ?_, fun p hm _ => hqb p hm⟩
     rw [lat, lne v (fun e => hne e.symm)]
     exact Nat.min_le_right _ _
   · obtain ⟨p, hpp, h2, h3, h4⟩ := h.fp v hv (fun hx => ((mpa v).1 hx).elim hn e)
     have evb : v ≠ b := fun e => hn (by subst e; simp)
     by_cases ep : p = t
     · subst ep
       refine ⟨b, by simp, Nat.lt_trans hbt h2, ?_, fun q' hm _ => hqb q' hm⟩
       rw [lat, lne v evb]
       exact Nat.le_trans (Nat.min_le_right _ _) h3
     · refine ⟨p, ((mpa p).1 hpp).resolve_right ep, h2, by rw [lne v evb]; exact Nat.le_trans (lle p) h3, fun q' hm hle => h4 q' ((mpa q').2 (.inl hm)) hle⟩
 · rw [e1, e2, e3]
   exact fun p hm => h.pr p ((mpa p).2 (.inl hm))
/-- Where the path's last is left and leads to none ahead of it, there is one ahead of it, or it is the first of its group. -/
theorem TI.leave_pre (h : TI adj n σ) {q : List Nat} {t : Nat} (hp : σ.path = q ++ [t]) (hl : σ.low t ≠ σ.met t) : q ≠ [] := by
 rintro rfl
 have htp : t ∈ σ.path := by rw [hp]; simp
 have hto := h.po t htp
 obtain ⟨x, hxo, hxe, hxr⟩ := h.fr t hto
 have ltl : σ.low t < σ.met t := by have := (h.fm t hto).2; omega
 by_cases hx : x ∈ σ.path
 · rw [hp] at hx
   simp at hx
   subst hx
   omega
 · obtain ⟨p, hpp, h2, _⟩ := h.fp x hxo hx
   rw [hp] at hpp
   simp at hpp
   subst hpp
   omega
/-- What is gathered: the open ones from t on. -/
def gat (σ : S) (l : List Nat) (g : Nat) : Nat → Int := fun v => if v ∈ l then g else σ.cls v
theorem TI.group (h : TI adj n σ) {q o r : List Nat} {t : Nat} (hp : σ.path = q ++ [t]) (hg : σ.gone t = (adj t).length) (hl : σ.low t = σ.met t) (ho : σ.op = o ++ t :: r) :
   (∀ v ∈ t :: r, Con (fun a b => b ∈ adj a) t v) ∧ (∀ v ∈ t :: r, ∀ u ∈ adj v, u ∈ t :: r ∨ 0 ≤ σ.cls u) ∧ (∀ v u, v ∈ t :: r → Con (fun a b => b ∈ adj a) v u → u ∈ t :: r) := by
 have htp : t ∈ σ.path := by rw [hp]; simp
 have hto := h.po t htp
 have hoo := h.oo
 rw [ho, List.pairwise_append, List.pairwise_cons] at hoo
 have mop : ∀ v, v ∈ σ.op ↔ v ∈ o ∨ v ∈ t :: r := by intro v; rw [ho, List.mem_append]
 have hge : ∀ v ∈ t :: r, σ.met t ≤ σ.met v := by
   intro v hv
   rcases List.mem_cons.1 hv with e | hv
   · rw [e]; exact Nat.le_refl _
   · exact Nat.le_of_lt (hoo.2.1.1 v hv)
 have hin : ∀ v ∈ σ.op, σ.met t ≤ σ.met v → v ∈ t :: r := by
   intro v hv hle
   rcases (mop v).1 hv with h1 | h1
   · have := hoo.2.2 v h1 t (List.mem_cons_self ..)
     omega
   · exact h1
 have hnp : ∀ v ∈ r, v ∉ σ.path := by
   intro v hv hx
   have := last_top h hp v hx
   have := hoo.2.1.1 v hv
   omega
 have hlow : ∀ v ∈ t :: r, σ.met t ≤ σ.low v := by
   intro v hv
   rcases List.mem_cons.1 hv with e | hv
   · rw [e, hl]; exact Nat.le_refl _
   · have hvo : v ∈ σ.op := (mop v).2 (.inr (List.mem_cons_of_mem _ hv))
     obtain ⟨p, hpp, h2, h3, h4⟩ := h.fp v hvo (hnp v hv)
     have h5 := h4 t htp (Nat.le_of_lt (hoo.2.1.1 v hv))
     have h6 := last_top h hp p hpp
     have : p = t := h.mi p t (Nat.le_antisymm h6 h5) (h.opmet (h.po p hpp))
     subst this
     omega
 have back : ∀ m v, σ.met v ≤ m → v ∈ t :: r → RS (fun a b => b ∈ adj a) v t := by
   intro m
   induction m with
   | zero =>
     intro v hm hv
     have := h.opmet ((mop v).2 (.inr hv))
     omega
   | succ m ih =>
     intro v hm hv
     rcases List.mem_cons.1 hv with e | hv'
     · rw [e]; exact .refl _ _
     · have hvo : v ∈ σ.op := (mop v).2 (.inr hv)
       obtain ⟨x, hxo, hxe, hxr⟩ := h.fr v hvo
       have h1 := h.fn v hvo (hnp v hv')
       have h2 := hlow v hv
       exact hxr.trans (ih x (by omega) (hin x hxo (by omega)))
 have edge : ∀ v ∈ t :: r, ∀ u ∈ adj v, u ∈ t :: r ∨ 0 ≤ σ.cls u := by
   intro v hv u hu
   have hvo : v ∈ σ.op := (mop v).2 (.inr hv)
   have hgv : σ.gone v = (adj v).length := by
     rcases List.mem_cons.1 hv with e | hv'
     · rw [e]; exact hg
     · exact h.fin v (h.opmet hvo) (hnp v hv')
   obtain ⟨i, hi, e⟩ := List.getElem_of_mem hu
   have e' : (adj v)[i]? = some u := by rw [List.getElem?_eq_getElem hi, e]
   have hm := h.gd v i u (by omega) e'
   rcases Int.lt_or_le (σ.cls u) 0 with hc | hc
   · have huo : u ∈ σ.op := (h.om u).2 ⟨hm, hc⟩
     have := h.fe v hvo i u (by omega) e' huo
     have := hlow v hv
     exact .inl (hin u huo (by omega))
   · exact .inr hc
 have reach : ∀ a b, Rch (fun a b => b ∈ adj a) a b → (a ∈ t :: r ∨ 0 ≤ σ.cls a) → (b ∈ t :: r ∨ 0 ≤ σ.cls b) ∧ (0 ≤ σ.cls a → 0 ≤ σ.cls b) := by
   intro a b hab
   induction hab with
   | one e =>
     intro ha
     exact ⟨ha.elim (fun ha => edge _ ha _ e) (fun ha => .inr (h.cl _ ha _ e)), fun ha => h.cl _ ha _ e⟩
   | step e _ ih =>
     intro ha
     obtain ⟨i1, i2⟩ := ih (ha.elim (fun ha => edge _ ha _ e) (fun ha => .inr (h.cl _ ha _ e)))
     exact ⟨i1, fun ha => i2 (h.cl _ ha _ e)⟩
 refine ⟨fun v hv => ⟨h.pr t htp v ((mop v).2 (.inr hv)) (hge v hv), back _ v (Nat.le_refl _) hv⟩, edge, fun v u hv hc => ?_⟩
 rcases hc.1 with rfl | h1
 · exact hv
 · rcases (reach v u h1 (.inl hv)).1 with h2 | h2
   · exact h2
   · have hvo : v ∈ σ.op := (mop v).2 (.inr hv)
     have hneg := ((h.om v).1 hvo).2
     rcases hc.2 with rfl | h3
     · exact hv
     · have := (reach u v h3 (.inr h2)).2 h2
       omega
def closeS (σ : S) (q o l : List Nat) (g : Nat) : S := { σ with path := q, op := o, cls := fun v => if v ∈ l then (g : Int) else σ.cls v }
theorem TI.leave_yes (h : TI adj n σ) {q o r : List Nat} {t g : Nat} (hp : σ.path = q ++ [t]) (hg : σ.gone t = (adj t).length) (hl : σ.low t = σ.met t) (ho : σ.op = o ++ t :: r) (hgm : g ∈ t :: r) (hgl : ∀ v ∈ t :: r, g ≤ v) :
   TI adj n (closeS σ q o (t :: r) g) := by
 obtain ⟨g1, g2, g3⟩ := h.group hp hg hl ho
 have htp : t ∈ σ.path := by rw [hp]; simp
 have hto := h.po t htp
 have hoo := h.oo
 rw [ho, List.pairwise_append, List.pairwise_cons] at hoo
 have mop : ∀ v, v ∈ σ.op ↔ v ∈ o ∨ v ∈ t :: r := by intro v; rw [ho, List.mem_append]
 have hdis : ∀ v ∈ o, v ∉ t :: r := by
   intro v hv hx
   exact Nat.lt_irrefl _ (hoo.2.2 v hv v hx)
 have mpa : ∀ v, v ∈ σ.path ↔ v ∈ q ∨ v = t := by intro v; rw [hp, List.mem_append]; simp
 have hqt := last_new h hp
 have hqo : ∀ p ∈ q, p ∈ o := by
   intro p hm
   rcases (mop p).1 (h.po p ((mpa p).2 (.inl hm))) with h1 | h1
   · exact h1
   · have := hqt p hm
     rcases List.mem_cons.1 h1 with h2 | h2
     · rw [h2] at this; omega
     · have := hoo.2.1.1 p h2
       omega
 have hot : ∀ v ∈ o, σ.met v < σ.met t := fun v hv => hoo.2.2 v hv t (List.mem_cons_self ..)
 have hto' : t ∉ o := fun hx => Nat.lt_irrefl _ (hot t hx)
 have clin : ∀ v, v ∈ t :: r → (closeS σ q o (t :: r) g).cls v = g := fun v hv => if_pos hv
 have clout : ∀ v, v ∉ t :: r → (closeS σ q o (t :: r) g).cls v = σ.cls v := fun v hv => if_neg hv
 have hcl : ∀ v, 0 ≤ (closeS σ q o (t :: r) g).cls v ↔ v ∈ t :: r ∨ 0 ≤ σ.cls v := by
   intro v
   by_cases hv : v ∈ t :: r
   · rw [clin v hv]; simp only [hv, true_or, iff_true]; omega
   · rw [clout v hv]; simp only [hv, false_or]
 refine ⟨h.ml, h.mc, h.mi, h.ct, ?_, ?_, hoo.1, ?_, hqo, h.gl, h.gu, h.gd, ?_, ?_, ?_, ?_, ?_, ?_, ?_, ?_, ?_⟩
 · intro v
   show v ∈ o ↔ σ.met v ≠ 0 ∧ _
   constructor
   · intro hv
     obtain ⟨h1, h2⟩ := (h.om v).1 ((mop v).2 (.inl hv))
     exact ⟨h1, by rw [clout v (hdis v hv)]; exact h2⟩
   · rintro ⟨h1, h2⟩
     have hn : v ∉ t :: r := fun hx => by rw [clin v hx] at h2; omega
     rw [clout v hn] at h2
     exact ((mop v).1 ((h.om v).2 ⟨h1, h2⟩)).resolve_right hn
 · intro v hv
   rcases (hcl v).1 hv with h1 | h1
   · exact h.opmet ((mop v).2 (.inr h1))
   · exact h.cm v h1
 · have hpp := h.pp
   rw [hp, List.pairwise_append] at hpp
   exact hpp.1
 · intro v hv hn
   by_cases e : v = t
   · subst e; exact hg
   · exact h.fin v hv (fun hx => ((mpa v).1 hx).elim hn e)
 · exact fun v hv => h.fm v ((mop v).2 (.inl hv))
 · intro v hv
   obtain ⟨x, hxo, hxe, hxr⟩ := h.fr v ((mop v).2 (.inl hv))
   refine ⟨x, ?_, hxe, hxr⟩
   rcases (mop x).1 hxo with h1 | h1
   · exact h1
   · have h2 := (h.fm v ((mop v).2 (.inl hv))).2
     have h3 := hot v hv
     have h4 : σ.met t ≤ σ.met x := by
       rcases List.mem_cons.1 h1 with e | h5
       · rw [e]; exact Nat.le_refl _
       · exact Nat.le_of_lt (hoo.2.1.1 x h5)
     omega
 · exact fun v hv i u hi hu huo => h.fe v ((mop v).2 (.inl hv)) i u hi hu ((mop u).2 (.inl huo))
 · intro v hv hn
   refine h.fn v ((mop v).2 (.inl hv)) (fun hx => ?_)
   rcases (mpa v).1 hx with h1 | h1
   · exact hn h1
   · subst h1; exact hto' hv
 · intro v hv hn
   have hv' : v ∈ o := hv
   have hn' : v ∉ q := hn
   obtain ⟨p, hpp, h2, h3, h4⟩ := h.fp v ((mop v).2 (.inl hv)) (fun hx => by
     rcases (mpa v).1 hx with h1 | h1
     · exact hn h1
     · subst h1; exact hto' hv)
   have ep : p ≠ t := fun e => by subst e; have := hot v hv'; omega
   exact ⟨p, ((mpa p).1 hpp).resolve_right ep, h2, h3, fun q' hm hle => h4 q' ((mpa q').2 (.inl hm)) hle⟩
 · exact fun p hm v hv => h.pr p ((mpa p).2 (.inl hm)) v ((mop v).2 (.inl hv))
 · intro v hv u hu
   rw [hcl] at hv ⊢
   rcases hv with h1 | h1
   · exact g2 v h1 u hu
   · exact .inr (h.cl v h1 u hu)
 · intro v hv
   by_cases hin : v ∈ t :: r
   · refine ⟨g, clin v hin, (g1 v hin).symm.trans (g1 g hgm), fun u hu => hgl u (g3 v u hin hu)⟩
   · rw [clout v hin] at hv ⊢
     exact h.cs v hv
theorem TI.adv_new (h : TI adj n σ) {q : List Nat} {t u : Nat} (hp : σ.path = q ++ [t]) (hx : (adj t)[σ.gone t]? = some u) (hu : u < n) (h0 : σ.met u = 0) : TI adj n (meetS (bumpS σ t) u) := by
 have htp : t ∈ σ.path := by rw [hp]; simp
 have hto := h.po t htp
 have hm := List.mem_of_getElem? hx
 have hne : t ≠ u := fun e => h.opmet hto (by rw [e]; exact h0)
 have k := h.meet hu h0 (fun x hl => by
   rw [hp, List.getLast?_concat] at hl
   cases hl
   exact hm)
 have htp' : t ∈ (meetS σ u).path := List.mem_append_left _ htp
 have e1 : (meetS σ u).met u = σ.cnt + 1 := upd_at _ _ _
 have e2 : (meetS σ u).low t = σ.low t := upd_ne _ _ hne
 exact k.bump htp' hx (by rw [e1]; omega) (fun _ => by
   rw [e1, e2]
   have := (h.fm t hto).2
   have := h.mc t
   omega)
theorem TI.adv_low (h : TI adj n σ) {q : List Nat} {t u : Nat} (hp : σ.path = q ++ [t]) (hx : (adj t)[σ.gone t]? = some u) (h0 : σ.met u ≠ 0) (hc : σ.cls u < 0) : TI adj n (lowS (bumpS σ t) t (σ.met u)) := by
 have htp : t ∈ σ.path := by rw [hp]; simp
 have hm := List.mem_of_getElem? hx
 have k := h.lower htp ((h.om u).2 ⟨h0, hc⟩) (.one hm)
 have e2 : (lowS σ t (σ.met u)).low t = min (σ.low t) (σ.met u) := upd_at _ _ _
 exact k.bump htp hx h0 (fun _ => by rw [e2]; exact Nat.min_le_right _ _)
theorem TI.adv_done (h : TI adj n σ) {q : List Nat} {t u : Nat} (hp : σ.path = q ++ [t]) (hx : (adj t)[σ.gone t]? = some u) (h0 : σ.met u ≠ 0) (hc : 0 ≤ σ.cls u) : TI adj n (bumpS σ t) := by
 have htp : t ∈ σ.path := by rw [hp]; simp
 exact h.bump htp hx h0 (fun ho => by have := ((h.om u).1 ho).2; omega)
end

open Go.RowKit
set_option maxHeartbeats 1000000

theorem elt_of {TS T : TypeId} {k bytes : Nat} {z : Value} (hu : Try.prog.underlying TS = some (.slice T)) (h1 : (Try.prog.info? T).isSome = true) (h2 : (Try.prog.info? T).bind (fun i => i.zero) = some z) (h3 : (Try.prog.info? T).map (fun i => (i.size, i.bytes)) = some (k, bytes)) (h4 : z.cells.size = k) (hk : 0 < k) : Elt TS T k bytes := by
 refine ⟨hu, ?_, hk⟩
 cases h : Try.prog.info? T with
 | none => rw [h] at h1; cases h1
 | some i =>
   rw [h] at h2 h3
   simp at h2 h3
   exact ⟨i, z, rfl, h2, h3.1, h3.2, h4⟩
def cI (x : Int) : List Value := [.int .i64 x]
def cN (x : Nat) : List Value := [.int .i64 (x : Int)]
def cV (x : Value) : List Value := [x]
def cB (x : Bool) : List Value := [.bool x]
def cQ (x : Int × Int) : List Value := [.int .i64 x.1, .int .i64 x.2]
theorem cI_len (x : Int) : (cI x).length = 1 := rfl
theorem cN_len (x : Nat) : (cN x).length = 1 := rfl
theorem cB_len (x : Bool) : (cB x).length = 1 := rfl
theorem cQ_len (x : Int × Int) : (cQ x).length = 2 := rfl
theorem cI_one (x : Int) : ∀ v ∈ cI x, v.oneCell' = true := by intro v hv; simp [cI] at hv; subst hv; rfl
theorem cN_one (x : Nat) : ∀ v ∈ cN x, v.oneCell' = true := by intro v hv; simp [cN] at hv; subst hv; rfl
theorem cQ_one (x : Int × Int) : ∀ v ∈ cQ x, v.oneCell' = true := by intro v hv; simp [cQ] at hv; rcases hv with rfl | rfl <;> rfl
theorem eltI : Elt 24 3 1 8 := elt_of (z := .int .i64 0) Try.underlying24 (by kernel_rfl) (by kernel_rfl) (by kernel_rfl) rfl (by decide)
theorem eltQ : Elt 22 33 2 16 := elt_of (z := .agg #[.int .i64 0, .int .i64 0]) Try.underlying22 (by kernel_rfl) (by kernel_rfl) (by kernel_rfl) rfl (by decide)
/-- The first n values of f. -/
def rng {α : Type} (n : Nat) (f : Nat → α) : List α := (List.range n).map f
theorem rng_len {α : Type} (n : Nat) (f : Nat → α) : (rng n f).length = n := by simp [rng]
theorem rng_at {α : Type} {n : Nat} (f : Nat → α) {i : Nat} (h : i < n) : (rng n f)[i]? = some (f i) := by simp [rng, h]
theorem rng_set {α : Type} {n : Nat} (f : Nat → α) (i : Nat) (x : α) : (rng n f).set i x = rng n (upd f i x) := by
 apply List.ext_getElem?
 intro j
 rw [List.getElem?_set]
 by_cases hj : j < n
 · by_cases e : i = j
   · subst e; simp [hj, rng, upd]
   · rw [if_neg e, rng_at f hj, rng_at _ hj, upd_ne f x (fun h => e h.symm)]
 · by_cases e : i = j
   · subst e; simp [hj, rng]
   · simp [hj, rng]
     exact fun h => absurd h e
theorem rng_eq {α : Type} {n : Nat} {f g : Nat → α} (h : ∀ i, i < n → f i = g i) : rng n f = rng n g := by
 unfold rng
 exact List.map_congr_left (fun i hi => h i (List.mem_range.1 hi))
section
variable {α : Type} {c : α → List Value}
/-- Each element is one cell. -/
theorem one_at (hc : ∀ x, (c x).length = 1) (l : List α) (i : Nat) {x : α} {u : Value} (h : l[i]? = some x) (hu : c x = [u]) : (l.flatMap c)[i]? = some u := by
 have := gm_at hc l i x 0 h (by decide)
 rw [Nat.mul_one, Nat.add_zero, hu] at this
 exact this
theorem one_set {e : α → Value} (he : ∀ x, c x = [e x]) (l : List α) (i : Nat) (x : α) : (l.flatMap c).set i (e x) = (l.set i x).flatMap c := by
 have hm : ∀ l : List α, l.flatMap c = l.map e := by
   intro l
   induction l with
   | nil => rfl
   | cons y l ih => rw [List.flatMap_cons, ih, he]; rfl
 rw [hm, hm, List.map_set]
end
theorem own_eq {W : World} {base : Nat} {T : TypeId} {k n m : Nat} {v : Value} {xs ys : List Value} (h : W.ownsRow base T k v n xs) (hn : n = m) (hx : xs = ys) : W.ownsRow base T k v m ys := by subst hn hx; exact h
theorem own_keep {W W' : World} {bs n k : Nat} {T : TypeId} {v : Value} {xs : List Value} (h : W.ownsRow bs T k v n xs) (hk : ∀ g, v.ownBlock = some g → g < W.heap.size → W'.heap[g]? = W.heap[g]?) : W'.ownsRow bs T k v n xs := by
 refine ⟨h.1, ?_⟩
 rcases h.2 with h | ⟨g, cap, cur, rfl, h2, h3, h4⟩
 · exact .inl h
 · exact .inr ⟨g, cap, cur, rfl, h2, (hk g rfl (heap_lt h3)).trans h3, h4⟩
theorem own_far {W : World} {bs n k : Nat} {T : TypeId} {v : Value} {xs : List Value} (h : W.ownsRow bs T k v n xs) {p : Addr} (u : Value) (hp : v.ownBlock ≠ some p.block) : (W.setCell p u).ownsRow bs T k v n xs :=
 own_keep h (fun g hg _ => Below.heap_setCell _ _ _ _ (fun e => hp (by rw [hg, e])))
/-- A slice of the whole of a block. -/
def sl (b n : Nat) : Value := .slice (some ⟨b, 0, none⟩) n n
theorem own_put {α : Type} {c : α → List Value} {e : α → Value} (he : ∀ x, c x = [e x]) {W : World} {bs n b : Nat} {T : TypeId} {f : Nat → α} (h : W.ownsRow bs T 1 (sl b n) n ((rng n f).flatMap c)) (i : Nat) (x : α) :
   (W.setCell ⟨b, i, none⟩ (e x)).ownsRow bs T 1 (sl b n) n ((rng n (upd f i x)).flatMap c) := by
 have := (World.ownsRow.stored h i (e x)).1
 rw [one_set he, rng_set] at this
 exact this
theorem own_cell {α : Type} {c : α → List Value} {e : α → Value} (he : ∀ x, c x = [e x]) {W : World} {bs n b : Nat} {T : TypeId} {f : Nat → α} (h : W.ownsRow bs T 1 (sl b n) n ((rng n f).flatMap c)) {i : Nat} (hi : i < n) :
   W.cell? ⟨b, i, none⟩ = some (e (f i)) ∧ W.frozen? ⟨b, i, none⟩ = false := by
 refine ⟨?_, World.ownsRow.frozenAt h i⟩
 rw [World.ownsRow.cellAt h i (by omega)]
 exact one_at (fun x => by rw [he]; rfl) _ i (rng_at f hi) (he _)
def eN (x : Nat) : Value := .int .i64 (x : Int)
def eI (x : Int) : Value := .int .i64 x
theorem hN (x : Nat) : cN x = [eN x] := rfl
theorem hI (x : Int) : cI x = [eI x] := rfl
/-- Of a list that is owned: its last. -/
theorem own_last {W : World} {bs : Nat} {T : TypeId} {v : Value} {q : List Nat} {t : Nat} (h : W.ownsRow bs T 1 v (q ++ [t]).length ((q ++ [t]).flatMap cN)) :
   ∃ g cap, v = .slice (some ⟨g, 0, none⟩) (q.length + 1) cap ∧ q.length + 1 ≤ cap ∧ W.cell? ⟨g, q.length, none⟩ = some (.int .i64 (t : Int)) ∧ W.ownsRow bs T 1 (.slice (some ⟨g, 0, none⟩) q.length cap) q.length (q.flatMap cN) := by
 rcases h.2 with ⟨_, h0⟩ | ⟨g, cap, cur, rfl, h2, h3, h4, h5, h6, h7⟩
 · simp at h0
 · have hl : (q ++ [t]).length = q.length + 1 := by simp
   rw [hl] at h4 h7
   refine ⟨g, cap, by rw [hl], h4, ?_, gm_len cN_len q, .inr ⟨g, cap, cur, rfl, h2, h3, by omega, h5, h6, ?_⟩⟩
   · have := World.ownsRow.cellAt h q.length (by simp)
     rw [this]
     exact one_at cN_len _ _ (by simp) rfl
   · have e := congrArg (List.take (q.length * 1)) h7
     rw [List.take_take, Nat.min_eq_left (by omega)] at e
     rw [e, List.flatMap_append]
     exact List.take_left' (gm_len cN_len q)
theorem own_at {W : World} {bs n g cap : Nat} {T : TypeId} {l : List Nat} (h : W.ownsRow bs T 1 (.slice (some ⟨g, 0, none⟩) n cap) n (l.flatMap cN)) {i x : Nat} (hx : l[i]? = some x) (hn : n = l.length) : W.cell? ⟨g, i, none⟩ = some (.int .i64 (x : Int)) := by
 have hi := (List.getElem?_eq_some_iff.1 hx).1
 rw [World.ownsRow.cellAt h i (by omega)]
 exact one_at cN_len _ _ hx rfl
/-- The first of a list that is owned. -/
theorem own_cut {W : World} {bs : Nat} {T : TypeId} {v : Value} {q r : List Nat} (h : W.ownsRow bs T 1 v (q ++ r).length ((q ++ r).flatMap cN)) (hr : r ≠ []) :
   ∃ g cap, v = .slice (some ⟨g, 0, none⟩) (q ++ r).length cap ∧ (q ++ r).length ≤ cap ∧ W.ownsRow bs T 1 (.slice (some ⟨g, 0, none⟩) q.length cap) q.length (q.flatMap cN) := by
 have hr' := List.length_pos_iff.2 hr
 have hl : (q ++ r).length = q.length + r.length := List.length_append
 rcases h.2 with ⟨_, h0⟩ | ⟨g, cap, cur, rfl, h2, h3, h4, h5, h6, h7⟩
 · omega
 · refine ⟨g, cap, rfl, h4, gm_len cN_len q, .inr ⟨g, cap, cur, rfl, h2, h3, by omega, h5, h6, ?_⟩⟩
   have e := congrArg (List.take (q.length * 1)) h7
   rw [List.take_take, Nat.min_eq_left (by omega)] at e
   rw [e, List.flatMap_append]
   exact List.take_left' (gm_len cN_len q)

/-! ### A search -/
structure SM (base b bg bm bf bl n : Nat) (vn : Value) (W : World) (vp vo : Value) (σ : S) : Prop where
 blk : W.heap[b]? = some (.cells #[vn, sl bg n, sl bm n, sl bf n, sl bl n, vp, vo, .int .i64 (σ.cnt : Int)] 46 (0, 0))
 bb : base ≤ b
 g : W.ownsRow base 3 1 (sl bg n) n ((rng n σ.gone).flatMap cN)
 m : W.ownsRow base 3 1 (sl bm n) n ((rng n σ.met).flatMap cN)
 f : W.ownsRow base 3 1 (sl bf n) n ((rng n σ.low).flatMap cN)
 l : W.ownsRow base 3 1 (sl bl n) n ((rng n σ.cls).flatMap cI)
 p : W.ownsRow base 3 1 vp σ.path.length (σ.path.flatMap cN)
 o : W.ownsRow base 3 1 vo σ.op.length (σ.op.flatMap cN)
 dg : bg ≠ b ∧ bg ≠ bm ∧ bg ≠ bf ∧ bg ≠ bl
 dm : bm ≠ b ∧ bm ≠ bf ∧ bm ≠ bl
 df : bf ≠ b ∧ bf ≠ bl
 dl : bl ≠ b
 dp : ∀ x, vp.ownBlock = some x → x ≠ b ∧ x ≠ bg ∧ x ≠ bm ∧ x ≠ bf ∧ x ≠ bl ∧ vo.ownBlock ≠ some x
 do' : ∀ x, vo.ownBlock = some x → x ≠ b ∧ x ≠ bg ∧ x ≠ bm ∧ x ≠ bf ∧ x ≠ bl
section
variable {base b bg bm bf bl n : Nat} {vn vp vo : Value} {W W' : World} {σ : S}
theorem sl_own (b n : Nat) : (sl b n).ownBlock = some b := rfl
theorem SM.ext (h : SM base b bg bm bf bl n vn W vp vo σ) (e : Ext W W') : SM base b bg bm bf bl n vn W' vp vo σ :=
 ⟨(e.block b (heap_lt h.blk)).trans h.blk, h.bb, ownsRow_ext h.g e, ownsRow_ext h.m e, ownsRow_ext h.f e, ownsRow_ext h.l e, ownsRow_ext h.p e, ownsRow_ext h.o e, h.dg, h.dm, h.df, h.dl, h.dp, h.do'⟩
theorem SM.fld (h : SM base b bg bm bf bl n vn W vp vo σ) : W.cell? ⟨b, 0, none⟩ = some vn ∧ W.cell? ⟨b, 1, none⟩ = some (sl bg n) ∧ W.cell? ⟨b, 2, none⟩ = some (sl bm n) ∧ W.cell? ⟨b, 3, none⟩ = some (sl bf n) ∧ W.cell? ⟨b, 4, none⟩ = some (sl bl n) ∧ W.cell? ⟨b, 5, none⟩ = some vp ∧ W.cell? ⟨b, 6, none⟩ = some vo ∧ W.cell? ⟨b, 7, none⟩ = some (.int .i64 (σ.cnt : Int)) := by
 simp [World.cell?, h.blk]
theorem SM.frz (h : SM base b bg bm bf bl n vn W vp vo σ) : ∀ o, W.frozen? ⟨b, o, none⟩ = false := by
 intro o
 simp [World.frozen?, h.blk]
theorem SM.gt (h : SM base b bg bm bf bl n vn W vp vo σ) {i : Nat} (hi : i < n) : W.cell? ⟨bg, i, none⟩ = some (.int .i64 (σ.gone i : Int)) ∧ W.frozen? ⟨bg, i, none⟩ = false := own_cell hN h.g hi
theorem SM.mt (h : SM base b bg bm bf bl n vn W vp vo σ) {i : Nat} (hi : i < n) : W.cell? ⟨bm, i, none⟩ = some (.int .i64 (σ.met i : Int)) ∧ W.frozen? ⟨bm, i, none⟩ = false := own_cell hN h.m hi
theorem SM.ft (h : SM base b bg bm bf bl n vn W vp vo σ) {i : Nat} (hi : i < n) : W.cell? ⟨bf, i, none⟩ = some (.int .i64 (σ.low i : Int)) ∧ W.frozen? ⟨bf, i, none⟩ = false := own_cell hN h.f hi
theorem SM.lt (h : SM base b bg bm bf bl n vn W vp vo σ) {i : Nat} (hi : i < n) : W.cell? ⟨bl, i, none⟩ = some (.int .i64 (σ.cls i)) ∧ W.frozen? ⟨bl, i, none⟩ = false := own_cell hI h.l hi
theorem SM.setG (h : SM base b bg bm bf bl n vn W vp vo σ) (i x : Nat) : SM base b bg bm bf bl n vn (W.setCell ⟨bg, i, none⟩ (.int .i64 (x : Int))) vp vo { σ with gone := upd σ.gone i x } := by
 obtain ⟨d1, d2, d3, d4⟩ := h.dg
 exact ⟨(Below.heap_setCell _ _ _ _ (fun e => d1 e.symm)).trans h.blk, h.bb, own_put hN h.g i x, own_far h.m _ (by rw [sl_own]; simpa using d2.symm), own_far h.f _ (by rw [sl_own]; simpa using d3.symm), own_far h.l _ (by rw [sl_own]; simpa using d4.symm), own_far h.p _ (fun e => (h.dp _ e).2.1 rfl), own_far h.o _ (fun e => (h.do' _ e).2.1 rfl), h.dg, h.dm, h.df, h.dl, h.dp, h.do'⟩
theorem SM.setM (h : SM base b bg bm bf bl n vn W vp vo σ) (i x : Nat) : SM base b bg bm bf bl n vn (W.setCell ⟨bm, i, none⟩ (.int .i64 (x : Int))) vp vo { σ with met := upd σ.met i x } := by
 obtain ⟨d1, d2, d3⟩ := h.dm
 exact ⟨(Below.heap_setCell _ _ _ _ (fun e => d1 e.symm)).trans h.blk, h.bb, own_far h.g _ (by rw [sl_own]; simpa using h.dg.2.1), own_put hN h.m i x, own_far h.f _ (by rw [sl_own]; simpa using d2.symm), own_far h.l _ (by rw [sl_own]; simpa using d3.symm), own_far h.p _ (fun e => (h.dp _ e).2.2.1 rfl), own_far h.o _ (fun e => (h.do' _ e).2.2.1 rfl), h.dg, h.dm, h.df, h.dl, h.dp, h.do'⟩
theorem SM.setF (h : SM base b bg bm bf bl n vn W vp vo σ) (i x : Nat) : SM base b bg bm bf bl n vn (W.setCell ⟨bf, i, none⟩ (.int .i64 (x : Int))) vp vo { σ with low := upd σ.low i x } := by
 obtain ⟨d1, d2⟩ := h.df
 exact ⟨(Below.heap_setCell _ _ _ _ (fun e => d1 e.symm)).trans h.blk, h.bb, own_far h.g _ (by rw [sl_own]; simpa using h.dg.2.2.1), own_far h.m _ (by rw [sl_own]; simpa using h.dm.2.1), own_put hN h.f i x, own_far h.l _ (by rw [sl_own]; simpa using d2.symm), own_far h.p _ (fun e => (h.dp _ e).2.2.2.1 rfl), own_far h.o _ (fun e => (h.do' _ e).2.2.2.1 rfl), h.dg, h.dm, h.df, h.dl, h.dp, h.do'⟩
theorem SM.setL (h : SM base b bg bm bf bl n vn W vp vo σ) (i : Nat) (x : Int) : SM base b bg bm bf bl n vn (W.setCell ⟨bl, i, none⟩ (.int .i64 x)) vp vo { σ with cls := upd σ.cls i x } :=
 ⟨(Below.heap_setCell _ _ _ _ (fun e => h.dl e.symm)).trans h.blk, h.bb, own_far h.g _ (by rw [sl_own]; simpa using h.dg.2.2.2), own_far h.m _ (by rw [sl_own]; simpa using h.dm.2.2), own_far h.f _ (by rw [sl_own]; simpa using h.df.2), own_put hI h.l i x, own_far h.p _ (fun e => (h.dp _ e).2.2.2.2.1 rfl), own_far h.o _ (fun e => (h.do' _ e).2.2.2.2 rfl), h.dg, h.dm, h.df, h.dl, h.dp, h.do'⟩
theorem blk_set {b o : Nat} {W : World} {u : Value} {cur cur' : Array Value} {T : TypeId} (h : W.heap[b]? = some (.cells cur T (0, 0))) (hc : cur.setIfInBounds o u = cur') : (W.setCell ⟨b, o, none⟩ u).heap[b]? = some (.cells cur' T (0, 0)) := by
 rw [heap_setCell_same W b o cur T u h, hc]
theorem SM.setC (h : SM base b bg bm bf bl n vn W vp vo σ) (x : Nat) : SM base b bg bm bf bl n vn (W.setCell ⟨b, 7, none⟩ (.int .i64 (x : Int))) vp vo { σ with cnt := x } :=
 ⟨blk_set h.blk rfl, h.bb, own_far h.g _ (by rw [sl_own]; simpa using h.dg.1), own_far h.m _ (by rw [sl_own]; simpa using h.dm.1), own_far h.f _ (by rw [sl_own]; simpa using h.df.1), own_far h.l _ (by rw [sl_own]; simpa using h.dl), own_far h.p _ (fun e => (h.dp _ e).1 rfl), own_far h.o _ (fun e => (h.do' _ e).1 rfl), h.dg, h.dm, h.df, h.dl, h.dp, h.do'⟩
/-- Another path. -/
theorem SM.setP (h : SM base b bg bm bf bl n vn W vp vo σ) {v : Value} {q : List Nat} (hq : W.ownsRow base 3 1 v q.length (q.flatMap cN)) (hd : ∀ x, v.ownBlock = some x → x ≠ b ∧ x ≠ bg ∧ x ≠ bm ∧ x ≠ bf ∧ x ≠ bl ∧ vo.ownBlock ≠ some x) : SM base b bg bm bf bl n vn (W.setCell ⟨b, 5, none⟩ v) v vo { σ with path := q } :=
 ⟨blk_set h.blk rfl, h.bb, own_far h.g _ (by rw [sl_own]; simpa using h.dg.1), own_far h.m _ (by rw [sl_own]; simpa using h.dm.1), own_far h.f _ (by rw [sl_own]; simpa using h.df.1), own_far h.l _ (by rw [sl_own]; simpa using h.dl), own_far hq _ (fun e => (hd _ e).1 rfl), own_far h.o _ (fun e => (h.do' _ e).1 rfl), h.dg, h.dm, h.df, h.dl, hd, h.do'⟩
theorem SM.setO (h : SM base b bg bm bf bl n vn W vp vo σ) {v : Value} {q : List Nat} (hq : W.ownsRow base 3 1 v q.length (q.flatMap cN)) (hd : ∀ x, v.ownBlock = some x → x ≠ b ∧ x ≠ bg ∧ x ≠ bm ∧ x ≠ bf ∧ x ≠ bl) (hx : ∀ x, vp.ownBlock = some x → v.ownBlock ≠ some x) : SM base b bg bm bf bl n vn (W.setCell ⟨b, 6, none⟩ v) vp v { σ with op := q } :=
 ⟨blk_set h.blk rfl, h.bb, own_far h.g _ (by rw [sl_own]; simpa using h.dg.1), own_far h.m _ (by rw [sl_own]; simpa using h.dm.1), own_far h.f _ (by rw [sl_own]; simpa using h.df.1), own_far h.l _ (by rw [sl_own]; simpa using h.dl), own_far h.p _ (fun e => (h.dp _ e).1 rfl), own_far hq _ (fun e => (hd _ e).1 rfl), h.dg, h.dm, h.df, h.dl, fun x e => ⟨(h.dp x e).1, (h.dp x e).2.1, (h.dp x e).2.2.1, (h.dp x e).2.2.2.1, (h.dp x e).2.2.2.2.1, hx x e⟩, hd⟩
/-- The path's row has grown, where it lay or at the top. -/
theorem SM.growP (h : SM base b bg bm bf bl n vn W vp vo σ) (hg : W.grownBy W' vp.ownBlock) {v : Value} {q : List Nat} (hq : W'.ownsRow base 3 1 v q.length (q.flatMap cN)) (hv : v.ownBlock = vp.ownBlock ∨ v.ownBlock = some W.heap.size) : SM base b bg bm bf bl n vn (W'.setCell ⟨b, 5, none⟩ v) v vo { σ with path := q } := by
 have far : ∀ x, x < W.heap.size → vp.ownBlock ≠ some x → W'.heap[x]? = W.heap[x]? := fun x hx hn => hg.block x hx (fun e => hn e.symm)
 have row : ∀ {c m k T xs}, W.ownsRow base T k c m xs → (∀ x, c.ownBlock = some x → vp.ownBlock ≠ some x) → W'.ownsRow base T k c m xs := fun hr hn => own_keep hr (fun g e hlt => far g hlt (hn g e))
 have lt : ∀ {c m k T xs x}, W.ownsRow base T k c m xs → c.ownBlock = some x → x < W.heap.size := fun hr e => (hr.lt _ e).2
 have hb := heap_lt h.blk
 have hd : ∀ x, v.ownBlock = some x → x ≠ b ∧ x ≠ bg ∧ x ≠ bm ∧ x ≠ bf ∧ x ≠ bl ∧ vo.ownBlock ≠ some x := by
   intro x e
   rcases hv with hv | hv
   · exact h.dp x (hv ▸ e)
   · rw [hv] at e
     cases e
     have g1 := lt h.g (sl_own _ _)
     have g2 := lt h.m (sl_own _ _)
     have g3 := lt h.f (sl_own _ _)
     have g4 := lt h.l (sl_own _ _)
     exact ⟨by omega, by omega, by omega, by omega, by omega, fun e => Nat.lt_irrefl _ (lt h.o e)⟩
 exact ⟨blk_set ((far b hb (fun e => (h.dp _ e).1 rfl)).trans h.blk) rfl, h.bb, own_far (row h.g (fun x e e2 => by cases e; exact (h.dp _ e2).2.1 rfl)) _ (by rw [sl_own]; simpa using h.dg.1), own_far (row h.m (fun x e e2 => by cases e; exact (h.dp _ e2).2.2.1 rfl)) _ (by rw [sl_own]; simpa using h.dm.1), own_far (row h.f (fun x e e2 => by cases e; exact (h.dp _ e2).2.2.2.1 rfl)) _ (by rw [sl_own]; simpa using h.df.1), own_far (row h.l (fun x e e2 => by cases e; exact (h.dp _ e2).2.2.2.2.1 rfl)) _ (by rw [sl_own]; simpa using h.dl), own_far hq _ (fun e => (hd _ e).1 rfl), own_far (row h.o (fun x e e2 => (h.dp _ e2).2.2.2.2.2 e)) _ (fun e => (h.do' _ e).1 rfl), h.dg, h.dm, h.df, h.dl, hd, h.do'⟩
theorem SM.growO (h : SM base b bg bm bf bl n vn W vp vo σ) (hg : W.grownBy W' vo.ownBlock) {v : Value} {q : List Nat} (hq : W'.ownsRow base 3 1 v q.length (q.flatMap cN)) (hv : v.ownBlock = vo.ownBlock ∨ v.ownBlock = some W.heap.size) : SM base b bg bm bf bl n vn (W'.setCell ⟨b, 6, none⟩ v) vp v { σ with op := q } := by
 have far : ∀ x, x < W.heap.size → vo.ownBlock ≠ some x → W'.heap[x]? = W.heap[x]? := fun x hx hn => hg.block x hx (fun e => hn e.symm)
 have row : ∀ {c m k T xs}, W.ownsRow base T k c m xs → (∀ x, c.ownBlock = some x → vo.ownBlock ≠ some x) → W'.ownsRow base T k c m xs := fun hr hn => own_keep hr (fun g e hlt => far g hlt (hn g e))
 have lt : ∀ {c m k T xs x}, W.ownsRow base T k c m xs → c.ownBlock = some x → x < W.heap.size := fun hr e => (hr.lt _ e).2
 have hb := heap_lt h.blk
 have hd : ∀ x, v.ownBlock = some x → x ≠ b ∧ x ≠ bg ∧ x ≠ bm ∧ x ≠ bf ∧ x ≠ bl := by
   intro x e
   rcases hv with hv | hv
   · exact h.do' x (hv ▸ e)
   · rw [hv] at e
     cases e
     have g1 := lt h.g (sl_own _ _)
     have g2 := lt h.m (sl_own _ _)
     have g3 := lt h.f (sl_own _ _)
     have g4 := lt h.l (sl_own _ _)
     exact ⟨by omega, by omega, by omega, by omega, by omega⟩
 have hx : ∀ x, vp.ownBlock = some x → v.ownBlock ≠ some x := by
   intro x e e2
   rcases hv with hv | hv
   · exact (h.dp x e).2.2.2.2.2 (hv ▸ e2)
   · rw [hv] at e2
     cases e2
     exact Nat.lt_irrefl _ (lt h.p e)
 exact ⟨blk_set ((far b hb (fun e => (h.do' _ e).1 rfl)).trans h.blk) rfl, h.bb, own_far (row h.g (fun x e e2 => by cases e; exact (h.do' _ e2).2.1 rfl)) _ (by rw [sl_own]; simpa using h.dg.1), own_far (row h.m (fun x e e2 => by cases e; exact (h.do' _ e2).2.2.1 rfl)) _ (by rw [sl_own]; simpa using h.dm.1), own_far (row h.f (fun x e e2 => by cases e; exact (h.do' _ e2).2.2.2.1 rfl)) _ (by rw [sl_own]; simpa using h.df.1), own_far (row h.l (fun x e e2 => by cases e; exact (h.do' _ e2).2.2.2.2 rfl)) _ (by rw [sl_own]; simpa using h.dl), own_far (row h.p (fun x e e2 => (h.dp _ e).2.2.2.2.2 e2)) _ (fun e => (h.dp _ e).1 rfl), own_far hq _ (fun e => (hd _ e).1 rfl), h.dg, h.dm, h.df, h.dl, fun x e => ⟨(h.dp x e).1, (h.dp x e).2.1, (h.dp x e).2.2.1, (h.dp x e).2.2.2.1, (h.dp x e).2.2.2.2.1, hx x e⟩, hd⟩
theorem SM.growF (h : SM base b bg bm bf bl n vn W vp vo σ) {r : Option Nat} (hg : W.grownBy W' r) (hr : r = vp.ownBlock ∨ r = vo.ownBlock) : ∀ o, W'.cell? ⟨b, o, none⟩ = W.cell? ⟨b, o, none⟩ ∧ W'.frozen? ⟨b, o, none⟩ = false := by
 intro o
 have hb : some b ≠ r := by
   rintro rfl
   rcases hr with e | e
   · exact (h.dp _ e.symm).1 rfl
   · exact (h.do' _ e.symm).1 rfl
 have e := hg.block b (heap_lt h.blk) hb
 exact ⟨(cells_heap e o).1, (cells_heap e o).2.trans (h.frz o)⟩
theorem SM.low (h : SM base b bg bm bf bl n vn W vp vo σ) {w0 : World} (hb : w0.heap.size ≤ base) : w0.heap.size ≤ b ∧ w0.heap.size ≤ bg ∧ w0.heap.size ≤ bm ∧ w0.heap.size ≤ bf ∧ w0.heap.size ≤ bl ∧ base ≤ W.heap.size := by
 have hlt := heap_lt h.blk
 have h1 := h.bb
 have h2 := (h.g.lt _ rfl).1
 have h3 := (h.m.lt _ rfl).1
 have h4 := (h.f.lt _ rfl).1
 have h5 := (h.l.lt _ rfl).1
 simp only at h2 h3 h4 h5
 exact ⟨by omega, by omega, by omega, by omega, by omega, by omega⟩
end
theorem rd_oneN {W V : World} {x : Nat} (e : Ext (W.alloc (.cells #[.int .i64 (x : Int)] 3)) V) : RdG cN 1 V (.slice (some ⟨W.heap.size, 0, none⟩) 1 1) [x] :=
 RdG.one (Ext.top e) (fun j u h => by
   have hj : j < 1 := (List.getElem?_eq_some_iff.1 h).1
   match j, hj with
   | 0, _ => exact h)

def gt (l : List Nat) (i : Nat) : Nat := l.getD i 0
theorem gt_at {l : List Nat} {i : Nat} (h : i < l.length) : l[i]? = some (gt l i) := by
 unfold gt
 rw [List.getD_eq_getElem?_getD, List.getElem?_eq_getElem h]
 rfl
theorem gt_of {l : List Nat} {i x : Nat} (h : l[i]? = some x) : gt l i = x := by
 unfold gt
 rw [List.getD_eq_getElem?_getD, h]
 rfl
def swp (l : List Nat) (i j : Nat) : List Nat := (l.set i (gt l j)).set j (gt l i)
theorem swp_len (l : List Nat) (i j : Nat) : (swp l i j).length = l.length := by simp [swp]
theorem swp_j {l : List Nat} {i j : Nat} (hj : j < l.length) : gt (swp l i j) j = gt l i := by
 refine gt_of ?_
 unfold swp
 rw [List.getElem?_set]
 simp [hj]
theorem swp_i {l : List Nat} {i j : Nat} (hi : i < l.length) (hj : j < l.length) : gt (swp l i j) i = gt l j := by
 by_cases e : i = j
 · subst e; rw [swp_j hi]
 · refine gt_of ?_
   unfold swp
   rw [List.getElem?_set_ne (fun h => e h.symm), List.getElem?_set]
   simp [hi]
theorem swp_k {l : List Nat} {i j k : Nat} (hi : k ≠ i) (hj : k ≠ j) : gt (swp l i j) k = gt l k := by
 unfold swp gt
 rw [List.getD_eq_getElem?_getD, List.getElem?_set_ne (fun h => hj h.symm), List.getElem?_set_ne (fun h => hi h.symm), ← List.getD_eq_getElem?_getD]
theorem swp_perm {l : List Nat} {i j : Nat} (hi : i < l.length) (hj : j < l.length) : (swp l i j).Perm l := by
 have ei : l[i] = gt l i := by have := gt_at hi; rw [List.getElem?_eq_getElem hi] at this; exact Option.some.inj this
 have ej : l[j] = gt l j := by have := gt_at hj; rw [List.getElem?_eq_getElem hj] at this; exact Option.some.inj this
 unfold swp
 rw [← ei, ← ej]
 exact List.set_set_perm hi hj
/-- Each is no less than the one over it, as far as n. -/
def Hp (l : List Nat) (n : Nat) : Prop := ∀ k, 0 < k → k < n → gt l ((k - 1) / 2) ≤ gt l k
def UpI (l : List Nat) (j : Nat) : Prop :=
 (∀ k, 0 < k → k < l.length → k ≠ j → gt l ((k - 1) / 2) ≤ gt l k) ∧ (0 < j → ∀ k, 0 < k → k < l.length → (k - 1) / 2 = j → gt l ((j - 1) / 2) ≤ gt l k)
theorem up_start {l : List Nat} (x : Nat) (h : Hp l l.length) : UpI (l ++ [x]) l.length := by
 have e : ∀ k, k < l.length → gt (l ++ [x]) k = gt l k := by
   intro k hk
   refine gt_of ?_
   rw [List.getElem?_append_left hk, gt_at hk]
 refine ⟨fun k h0 hk hn => ?_, fun _ k h0 hk hp => ?_⟩
 · simp at hk
   rw [e k (by omega), e ((k - 1) / 2) (by omega)]
   exact h k h0 (by omega)
 · simp at hk
   omega
theorem up_end {l : List Nat} {j : Nat} (h : UpI l j) (he : j = 0 ∨ gt l ((j - 1) / 2) ≤ gt l j) : Hp l l.length := by
 intro k h0 hk
 by_cases e : k = j
 · subst e
   rcases he with he | he
   · omega
   · exact he
 · exact h.1 k h0 hk e
theorem up_step {l : List Nat} {j : Nat} (h : UpI l j) (hj : j < l.length) (h0 : 0 < j) (hlt : gt l j < gt l ((j - 1) / 2)) : UpI (swp l ((j - 1) / 2) j) ((j - 1) / 2) := by
 obtain ⟨i, hi⟩ : ∃ i, (j - 1) / 2 = i := ⟨_, rfl⟩
 rw [hi] at hlt ⊢
 have hil : i < l.length := by omega
 have hij : i ≠ j := by omega
 have si := swp_i hil hj
 have sj := swp_j (l := l) (i := i) hj
 have sk : ∀ k, k ≠ i → k ≠ j → gt (swp l i j) k = gt l k := fun k a b => swp_k a b
 refine ⟨fun k k0 hk hn => ?_, fun i0 k k0 hk hp => ?_⟩
 · rw [swp_len] at hk
   by_cases ekj : k = j
   · subst ekj
     rw [hi, si, sj]
     omega
   · rw [sk k hn ekj]
     by_cases p1 : (k - 1) / 2 = j
     · rw [p1, sj]
       have := h.2 h0 k k0 hk p1
       rw [hi] at this
       exact this
     · by_cases p2 : (k - 1) / 2 = i
       · rw [p2, si]
         have := h.1 k k0 hk ekj
         rw [p2] at this
         omega
       · rw [sk _ p2 p1]
         exact h.1 k k0 hk ekj
 · rw [swp_len] at hk
   have pi1 : (i - 1) / 2 ≠ i := by omega
   have pi2 : (i - 1) / 2 ≠ j := by omega
   rw [sk _ pi1 pi2]
   have hpi := h.1 i i0 hil hij
   by_cases ekj : k = j
   · subst ekj
     rw [sj]
     exact hpi
   · have eki : k ≠ i := by omega
     rw [sk k eki ekj]
     have := h.1 k k0 hk ekj
     rw [hp] at this
     omega
def DnI (l : List Nat) (n i : Nat) : Prop :=
 (∀ k, 0 < k → k < n → (k - 1) / 2 ≠ i → gt l ((k - 1) / 2) ≤ gt l k) ∧ (0 < i → ∀ k, 0 < k → k < n → (k - 1) / 2 = i → gt l ((i - 1) / 2) ≤ gt l k)
theorem dn_start {l : List Nat} {n : Nat} (h : Hp l l.length) (hn : l.length = n + 1) : DnI (swp l 0 n) n 0 := by
 refine ⟨fun k k0 hk hp => ?_, fun h => absurd h (Nat.lt_irrefl _)⟩
 rw [swp_k (by omega) (by omega), swp_k (by omega) (by omega)]
 exact h k k0 (by omega)
theorem dn_end {l : List Nat} {n i : Nat} (h : DnI l n i) (h1 : 2 * i + 1 < n → gt l i ≤ gt l (2 * i + 1)) (h2 : 2 * i + 2 < n → gt l i ≤ gt l (2 * i + 2)) : Hp l n := by
 intro k k0 hk
 by_cases e : (k - 1) / 2 = i
 · rw [e]
   rcases (by omega : k = 2 * i + 1 ∨ k = 2 * i + 2) with rfl | rfl
   · exact h1 hk
   · exact h2 hk
 · exact h.1 k k0 hk e
theorem dn_step {l : List Nat} {n i j : Nat} (h : DnI l n i) (hn : n ≤ l.length) (hj : j < n) (hp : j = 2 * i + 1 ∨ j = 2 * i + 2) (hlt : gt l j < gt l i) (h1 : 2 * i + 1 < n → gt l j ≤ gt l (2 * i + 1)) (h2 : 2 * i + 2 < n → gt l j ≤ gt l (2 * i + 2)) : DnI (swp l i j) n j := by
 have hil : i < l.length := by omega
 have hjl : j < l.length := by omega
 have hij : i ≠ j := by omega
 have pj : (j - 1) / 2 = i := by omega
 have si := swp_i hil hjl
 have sj := swp_j (l := l) (i := i) hjl
 have sk : ∀ k, k ≠ i → k ≠ j → gt (swp l i j) k = gt l k := fun k a b => swp_k a b
 refine ⟨fun k k0 hk hkp => ?_, fun _ k k0 hk hkp => ?_⟩
 · by_cases p1 : (k - 1) / 2 = i
   · rw [p1, si]
     by_cases ekj : k = j
     · subst ekj
       rw [sj]
       omega
     · rw [sk k (by omega) ekj]
       rcases (by omega : k = 2 * i + 1 ∨ k = 2 * i + 2) with e | e
       · rw [e]; exact h1 (by omega)
       · rw [e]; exact h2 (by omega)
   · rw [sk _ p1 hkp]
     have ekj : k ≠ j := fun e => p1 (by rw [e]; exact pj)
     by_cases eki : k = i
     · rw [eki, si]
       have := h.2 (by omega) j (by omega) hj pj
       exact this
     · rw [sk k eki ekj]
       exact h.1 k k0 hk p1
 · rw [pj, si, sk k (by omega) (by omega)]
   have := h.1 k k0 hk (by omega)
   rw [hkp] at this
   exact this
theorem hp_min {l : List Nat} {n : Nat} (h : Hp l n) : ∀ m k, k ≤ m → k < n → gt l 0 ≤ gt l k
 | m, 0, _, _ => Nat.le_refl _
 | 0, k + 1, h1, _ => absurd h1 (by omega)
 | m + 1, k + 1, h1, h2 => by
   have := h (k + 1) (by omega) h2
   have := hp_min h m ((k + 1 - 1) / 2) (by omega) (by omega)
   omega
theorem hp_cut {l : List Nat} {n : Nat} (h : Hp l n) (hn : n ≤ l.length) : Hp (l.take n) (l.take n).length := by
 have hl : (l.take n).length = n := by simp; omega
 rw [hl]
 have e : ∀ k, k < n → gt (l.take n) k = gt l k := by
   intro k hk
   refine gt_of ?_
   rw [List.getElem?_take, if_pos hk, gt_at (by omega)]
 intro k k0 hk
 rw [e k hk, e _ (by omega)]
 exact h k k0 hk
/-- What Pop leaves, of a list whose first went to the end. -/
theorem pop_perm {l l' : List Nat} {n : Nat} (hn : l.length = n + 1) (hp : l'.Perm (swp l 0 n)) (hk : gt l' n = gt l 0) : l.Perm (gt l 0 :: l'.take n) := by
 have h1 : l.Perm l' := ((swp_perm (by omega) (by omega)).symm).trans hp.symm
 have hl : l'.length = n + 1 := by rw [← h1.length_eq, hn]
 have e : l' = l'.take n ++ [gt l 0] := by
   have hd : l'.drop n = [gt l 0] := by
     have h2 := gt_at (l := l') (i := n) (by omega)
     rw [hk] at h2
     obtain ⟨hlt, e⟩ := List.getElem?_eq_some_iff.1 h2
     rw [List.drop_eq_getElem_cons hlt, e, List.drop_of_length_le (by omega)]
   rw [← hd, List.take_append_drop]
 refine h1.trans ?_
 have h3 : (l'.take n ++ [gt l 0]).Perm (gt l 0 :: l'.take n) := List.perm_append_comm
 rw [← e] at h3
 exact h3
theorem heap_one : Hp [] 0 := fun _ _ h => absurd h (Nat.not_lt_zero _)

open Go.RowKit
set_option maxHeartbeats 4000000

theorem wrapQ (k : Nat) (h : k ≤ 1000000) (h1 : 1 ≤ k) : wrap64 ((k : Int) - 1) = ((k - 1 : Nat) : Int) := by unfold wrap64; omega
theorem wrapZ (k : Nat) (h : k ≤ 1000000) : wrap64 (k : Int) = (k : Int) := by unfold wrap64; omega
theorem eltU : Elt 49 3 1 8 := elt_of (z := .int .i64 0) Try.underlying49 (by kernel_rfl) (by kernel_rfl) (by kernel_rfl) rfl (by decide)
/-- The world behind a call that leaves the blocks of P as they were. -/
structure ExtP (P : Nat → Prop) (w w' : World) : Prop where
 os : w'.os = w.os
 tape : w'.tape = w.tape
 output : w'.output = w.output
 size : w.heap.size ≤ w'.heap.size
 block : ∀ k, k < w.heap.size → P k → w'.heap[k]? = w.heap[k]?
section
variable {P : Nat → Prop} {a w w' : World}
theorem ExtP.refl (P : Nat → Prop) (w : World) : ExtP P w w := ⟨rfl, rfl, rfl, Nat.le_refl _, fun _ _ _ => rfl⟩
theorem ExtP.trans (h : ExtP P a w) (e : Ext w w') : ExtP P a w' :=
 ⟨e.os.trans h.os, e.tape.trans h.tape, e.output.trans h.output, Nat.le_trans h.size e.size, fun k hk hp => (e.block k (Nat.lt_of_lt_of_le hk h.size)).trans (h.block k hk hp)⟩
theorem ExtP.drew (h : ExtP P a w) : ExtP P a w.drew := h.trans (Ext.refl _).drew
theorem ExtP.setCell (h : ExtP P a w) {p : Addr} (hp : ¬ P p.block) (u : Value) : ExtP P a (w.setCell p u) :=
 ⟨h.os, h.tape, h.output, by simpa [World.setCell] using h.size, fun k hk hk2 => (Below.heap_setCell _ _ _ _ (fun e => hp (e ▸ hk2))).trans (h.block k hk hk2)⟩
theorem ExtP.grown (h : ExtP P a w) {r : Option Nat} (hg : w.grownBy w' r) (hr : ∀ g, r = some g → ¬ P g) : ExtP P a w' :=
 ⟨hg.os.trans h.os, hg.tape.trans h.tape, hg.output.trans h.output, Nat.le_trans h.size hg.size, fun k hk hp => (hg.block k (Nat.lt_of_lt_of_le hk h.size) (fun e => hr k e.symm hp)).trans (h.block k hk hp)⟩
theorem Ext.toP (h : Ext w w') (P : Nat → Prop) : ExtP P w w' := (ExtP.refl P w).trans h
end
/-- The queue l in block b. -/
structure QM (P : Nat → Prop) (b : Nat) (W : World) (l : List Nat) (v : Value) : Prop where
 blk : W.heap[b]? = some (.cells #[v] 49 (0, 0))
 nb : ¬ P b
 o : W.ownsRow 0 3 1 v l.length (l.flatMap cN)
 d : v.ownBlock ≠ some b
 nr : ∀ g, v.ownBlock = some g → ¬ P g
theorem QM.cell {P : Nat → Prop} {b : Nat} {W : World} {l : List Nat} {v : Value} (h : QM P b W l v) : W.cell? ⟨b, 0, none⟩ = some v ∧ W.frozen? ⟨b, 0, none⟩ = false := by
 constructor
 · simp [World.cell?, h.blk]
 · simp [World.frozen?, h.blk]
theorem len_any (w : World) (p : Option Addr) (n c : Nat) : Calls Try.prog 21 #[.slice p n c] w fun e w' => e = .returned (.int .i64 (n : Int)) ∧ w' = w := by
 go_enter Try.func21, Try.ntmps21
 go_wp2_with fail
 go_ret
 exact ⟨rfl, rfl⟩
theorem less_any (w : World) (g n c i j x y : Nat) (hi : i < n) (hj : j < n) (hx : w.cell? ⟨g, i, none⟩ = some (.int .i64 (x : Int))) (hy : w.cell? ⟨g, j, none⟩ = some (.int .i64 (y : Int))) :
   Calls Try.prog 45 #[.slice (some ⟨g, 0, none⟩) n c, .int .i64 (i : Int), .int .i64 (j : Int)] w fun e w' => e = .returned (.bool (decide (x < y))) ∧ Ext w w' := by
 have h1 : (i : Int) < (n : Int) := by omega
 have h2 : (j : Int) < (n : Int) := by omega
 have HD : Hid ((decide ((x : Int) < (y : Int))) = decide (x < y)) := by show _ = _; simp
 go_enter Try.func45, Try.ntmps45
 go_upto_region 1 with fail
 go_region
 go_wp2
 go_ret
 exact ⟨rfl, (Ext.refl _).drew⟩
theorem own_putL {W : World} {bs n g cap : Nat} {T : TypeId} {l : List Nat} (h : W.ownsRow bs T 1 (.slice (some ⟨g, 0, none⟩) n cap) n (l.flatMap cN)) (i x : Nat) :
   (W.setCell ⟨g, i, none⟩ (.int .i64 (x : Int))).ownsRow bs T 1 (.slice (some ⟨g, 0, none⟩) n cap) n ((l.set i x).flatMap cN) := by
 have := (World.ownsRow.stored h i (eN x)).1
 rw [one_set hN] at this
 exact this
theorem QM.ext {P : Nat → Prop} {b : Nat} {W W' : World} {l : List Nat} {v : Value} (h : QM P b W l v) (e : Ext W W') : QM P b W' l v :=
 ⟨(e.block b (heap_lt h.blk)).trans h.blk, h.nb, ownsRow_ext h.o e, h.d, h.nr⟩
theorem QM.row {P : Nat → Prop} {b : Nat} {W : World} {l : List Nat} {v : Value} (h : QM P b W l v) (h0 : 0 < l.length) : ∃ g c, v = .slice (some ⟨g, 0, none⟩) l.length c ∧ l.length ≤ c ∧ g ≠ b ∧ ¬ P g := by
 rcases h.o.2 with ⟨_, h1⟩ | ⟨g, c, cur, rfl, -, -, h4, -⟩
 · omega
 · exact ⟨g, c, rfl, h4, fun e => h.d (by rw [← e]; rfl), h.nr g rfl⟩
theorem QM.at {P : Nat → Prop} {b g c : Nat} {W : World} {l : List Nat} (h : QM P b W l (.slice (some ⟨g, 0, none⟩) l.length c)) {i : Nat} (hi : i < l.length) : W.cell? ⟨g, i, none⟩ = some (.int .i64 ((gt l i : Nat) : Int)) ∧ W.frozen? ⟨g, i, none⟩ = false :=
 ⟨own_at h.o (gt_at hi) rfl, World.ownsRow.frozenAt h.o i⟩
theorem QM.swap {P : Nat → Prop} {b g c : Nat} {W : World} {l : List Nat} (h : QM P b W l (.slice (some ⟨g, 0, none⟩) l.length c)) (i j : Nat) :
   QM P b ((W.setCell ⟨g, i, none⟩ (.int .i64 ((gt l j : Nat) : Int))).setCell ⟨g, j, none⟩ (.int .i64 ((gt l i : Nat) : Int))) (swp l i j) (.slice (some ⟨g, 0, none⟩) l.length c) := by
 have hg : g ≠ b := fun e => h.d (by rw [← e]; rfl)
 refine ⟨?_, h.nb, ?_, h.d, h.nr⟩
 · rw [Below.heap_setCell _ _ _ _ (fun e => hg e.symm), Below.heap_setCell _ _ _ _ (fun e => hg e.symm)]
   exact h.blk
 · rw [swp_len]
   exact own_putL (own_putL h.o i (gt l j)) j (gt l i)
set_option maxRecDepth 100000 in
theorem swap_any (P : Nat → Prop) (b g c : Nat) (w0 W : World) (l : List Nat) (i j : Nat) (h : QM P b W l (.slice (some ⟨g, 0, none⟩) l.length c)) (E : ExtP P w0 W) (_ : ∀ k, P k → k < w0.heap.size) (hi : i < l.length) (hj : j < l.length) :
   Calls Try.prog 48 #[.slice (some ⟨g, 0, none⟩) l.length c, .int .i64 (i : Int), .int .i64 (j : Int)] W fun e w' => e = .returned (.tuple #[]) ∧ QM P b w' (swp l i j) (.slice (some ⟨g, 0, none⟩) l.length c) ∧ ExtP P w0 w' := by
 have HQ : Hid (QM P b ((W.setCell ⟨g, i, none⟩ (.int .i64 ((gt l j : Nat) : Int))).setCell ⟨g, j, none⟩ (.int .i64 ((gt l i : Nat) : Int))) (swp l i j) (.slice (some ⟨g, 0, none⟩) l.length c)) := h.swap i j
 obtain ⟨c1, c2⟩ := h.at hi
 obtain ⟨c3, c4⟩ := h.at hj
 have hg : ¬ P g := h.nr g rfl
 have HE : Hid (ExtP P w0 ((W.setCell ⟨g, i, none⟩ (.int .i64 ((gt l j : Nat) : Int))).setCell ⟨g, j, none⟩ (.int .i64 ((gt l i : Nat) : Int)))) := (E.setCell hg _).setCell hg _
 obtain ⟨z, hz⟩ : ∃ z, (W.setCell ⟨g, i, none⟩ (.int .i64 ((gt l j : Nat) : Int))).cell? ⟨g, j, none⟩ = some z := by
   by_cases e : i = j
   · subst e
     exact ⟨_, World.cell?_setCell_same _ _ _ c1⟩
   · exact ⟨_, (World.cell?_setCell_other _ _ _ _ (by intro h; cases h; exact e rfl)).trans c3⟩
 have i1 : (i : Int) < (l.length : Int) := by omega
 have i2 : (j : Int) < (l.length : Int) := by omega
 generalize l.length = n at *
 generalize gt l i = x at *
 generalize gt l j = y at *
 clear h E hi hj hg
 go_enter Try.func48, Try.ntmps48
 go_upto_region 0 with fail
 go_region
 go_wp2
 refine bodyPost_end (v := .tuple #[]) (by simp [results, Try.results48, go_sem]) rfl ?_
 exact ⟨rfl, HQ.out.ext (Ext.refl _).drew, HE.out.drew⟩
set_option maxRecDepth 100000 in
theorem qpop_any (P : Nat → Prop) (b : Nat) (w0 W : World) (q : List Nat) (t : Nat) (v : Value) (h : QM P b W (q ++ [t]) v) (E : ExtP P w0 W) (_ : ∀ k, P k → k < w0.heap.size) (hn : q.length ≤ 5000) :
   Calls Try.prog 46 #[.pointer (some ⟨b, 0, none⟩)] W fun e w' => e = .returned (.iface 3 (.int .i64 (t : Int))) ∧ ∃ v', QM P b w' q v' ∧ ExtP P w0 w' := by
 obtain ⟨g, c, rfl, hc, ct, ho⟩ := own_last h.o
 obtain ⟨k1, k2⟩ := h.cell
 have hg : g ≠ b := fun e => h.d (by rw [← e]; rfl)
 have HQ : Hid (QM P b (W.setCell ⟨b, 0, none⟩ (.slice (some ⟨g, 0, none⟩) q.length c)) q (.slice (some ⟨g, 0, none⟩) q.length c) ∧ ExtP P w0 (W.setCell ⟨b, 0, none⟩ (.slice (some ⟨g, 0, none⟩) q.length c))) :=
   ⟨⟨blk_set h.blk rfl, h.nb, own_far ho _ (by intro e; cases e; exact hg rfl), by intro e; cases e; exact hg rfl, h.nr⟩, E.setCell h.nb _⟩
 obtain ⟨L, hL⟩ : ∃ L, q.length + 1 = L := ⟨_, rfl⟩
 rw [hL] at k1 hc
 have wl : wrap64 ((L : Int) - 1) = (q.length : Int) := by unfold wrap64; omega
 have r1 : (q.length : Int) < (L : Int) := by omega
 have r2 : (q.length : Int) ≤ (c : Int) := by omega
 clear h E ho hg hL hn hc
 go_enter Try.func46, Try.ntmps46
 go_wp2_with fail
 go_ret
 exact ⟨rfl, _, HQ.out⟩
theorem rc_val (b : Nat) (x : String) (w : World) : (receiverAt 48 (.val (.pointer (some ⟨b, 0, none⟩))) false (some x)).run Try.prog w = (loadVar 49 ⟨b, 0, none⟩).run Try.prog w := by kernel_rfl
theorem me_val {name : String} {f : Nat} (h2 : (Try.t48.methods.find? (fun x => x.name == name)).map (fun m => (m.path.toList.length, m.func)) = some (0, some (f, false))) (b : Nat) (w : World) (p : Option Addr) (n c : Nat) (h : w.cell? ⟨b, 0, none⟩ = some (.slice p n c)) : (method 177 48 (.pointer (some ⟨b, 0, none⟩)) name).run Try.prog w = .ok (f, .slice p n c) w := by
 have lv : (loadVar 49 ⟨b, 0, none⟩).run Try.prog w = .ok (.slice p n c) w := by
   have := Try.underlying49
   go_simp
 unfold method
 cases hm : Try.t48.methods.find? (fun x => x.name == name) with
 | none => rw [hm] at h2; cases h2
 | some m =>
   rw [hm] at h2
   simp at h2
   have ti : Sem.run Try.prog (typeInfo 48) w = .ok Try.t48 w := by go_simp
   obtain ⟨e1, e2⟩ := h2
   simp only [Sem.run_bind, ti, Result.andThen, hm, e2, e1]
   simp [follow, rc_val, lv]
theorem me_len (b : Nat) (w : World) (p : Option Addr) (n c : Nat) (h : w.cell? ⟨b, 0, none⟩ = some (.slice p n c)) : (method 177 48 (.pointer (some ⟨b, 0, none⟩)) "Len").run Try.prog w = .ok (21, .slice p n c) w := me_val (by kernel_rfl) b w p n c h
theorem me_less (b : Nat) (w : World) (p : Option Addr) (n c : Nat) (h : w.cell? ⟨b, 0, none⟩ = some (.slice p n c)) : (method 177 48 (.pointer (some ⟨b, 0, none⟩)) "Less").run Try.prog w = .ok (45, .slice p n c) w := me_val (by kernel_rfl) b w p n c h
theorem me_swap (b : Nat) (w : World) (p : Option Addr) (n c : Nat) (h : w.cell? ⟨b, 0, none⟩ = some (.slice p n c)) : (method 177 48 (.pointer (some ⟨b, 0, none⟩)) "Swap").run Try.prog w = .ok (48, .slice p n c) w := me_val (by kernel_rfl) b w p n c h
theorem me_push (a : Addr) (w : World) : (method 177 48 (.pointer (some a)) "Push").run Try.prog w = .ok (47, .pointer (some a)) w := by kernel_rfl
theorem me_pop (a : Addr) (w : World) : (method 177 48 (.pointer (some a)) "Pop").run Try.prog w = .ok (46, .pointer (some a)) w := by kernel_rfl
/-- A queue in the midst of a call: its row lies in block g. -/
structure QI (P : Nat → Prop) (b g c : Nat) (w0 : World) (l0 l : List Nat) (W : World) : Prop where
 q : QM P b W l (.slice (some ⟨g, 0, none⟩) l.length c)
 e : ExtP P w0 W
 p : l.Perm l0
set_option maxRecDepth 100000 in
theorem up_any (P : Nat → Prop) (b g c : Nat) (w0 W : World) (l : List Nat) (j : Nat) (h : QM P b W l (.slice (some ⟨g, 0, none⟩) l.length c)) (E : ExtP P w0 W) (hb : ∀ k, P k → k < w0.heap.size) (hn : l.length ≤ 5000) (hj : j < l.length) (hU : UpI l j) :
   Calls Try.prog 25 #[.iface 48 (.pointer (some ⟨b, 0, none⟩)), .int .i64 (j : Int)] W fun e w' => e = .returned (.tuple #[]) ∧ ∃ l', QI P b g c w0 l l' w' ∧ Hp l' l'.length := by
 have H0 : Hid (QI P b g c w0 l l W ∧ UpI l j) := ⟨⟨h, E, .refl _⟩, hU⟩
 have HB : Hid ((∀ k, P k → k < w0.heap.size) ∧ l.length ≤ 5000) := ⟨hb, hn⟩
 clear h E hb hn hU
 go_enter Try.func25, Try.ntmps25
 go_wp2_with fail
 go_loopw [1] (fun x wr => ∃ (k : Nat) (l' : List Nat), x = .int .i64 (k : Int) ∧ k < l'.length ∧ QI P b g c w0 l l' wr ∧ UpI l' k) (fun x _ => (intOf x).toNat)
 case atStart => exact ⟨j, l, rfl, hj, H0.out⟩
 case round =>
   clear H0 hj
   obtain ⟨k, l', rfl, hk, hQ, hU⟩ := hrel
   have HQ : Hid (QI P b g c w0 l l' wr ∧ UpI l' k) := ⟨hQ, hU⟩
   have hlen := hQ.p.length_eq
   have HL : Hid (l'.length = l.length) := hlen
   clear hU hlen
   rcases Nat.eq_zero_or_pos k with h0 | h0
   · subst h0
     go_wp2
     refine bodyPost_end (v := .tuple #[]) (by simp [results, Try.results25, go_sem]) rfl ?_
     exact ⟨rfl, l', HQ.out.1, up_end HQ.out.2 (.inl rfl)⟩
   · obtain ⟨k1, hk1⟩ : ∃ k1, k - 1 = k1 := ⟨_, rfl⟩
     obtain ⟨i, hi⟩ : ∃ i, k1 / 2 = i := ⟨_, rfl⟩
     have wk : wrap64 ((k : Int) - 1) = (k1 : Int) := by rw [← hk1]; exact wrapQ k (by have := HB.out; have := HL.out; omega) h0
     have dk : (k1 : Int) / 2 = (i : Int) := by omega
     have tk : (k1 : Int).tdiv 2 = (i : Int) := by rw [Int.tdiv_eq_ediv_of_nonneg (by omega)]; exact dk
     have b0 : (0 : Int) ≤ (k1 : Int) := by omega
     have wi := wrapZ i (by have := HB.out; have := HL.out; omega)
     have e1 : ((i : Int) == (k : Int)) = false := by simp; omega
     have hil : i < l'.length := by omega
     have HI : Hid ((k - 1) / 2 = i ∧ 0 < k ∧ i < k ∧ k < l'.length) := ⟨by rw [hk1, hi], h0, by omega, hk⟩
     obtain ⟨c1, c2⟩ := HQ.out.1.q.at hk
     obtain ⟨c3, c4⟩ := HQ.out.1.q.at hil
     have ml := fun W h => me_less b W (some ⟨g, 0, none⟩) l'.length c h
     have ms := fun W h => me_swap b W (some ⟨g, 0, none⟩) l'.length c h
     have kb := HQ.out.1.q.cell.1
     have cl := less_any wr g l'.length c k i _ _ hk hil c1 c3
     clear hk1 hi h0 hQ hk hil c1 c2 c3 c4
     rcases Nat.lt_or_ge (gt l' k) (gt l' i) with hlt | hge
     · have e2 : decide (gt l' k < gt l' i) = true := by simp [hlt]
       rw [e2] at cl
       have HU : Hid (UpI (swp l' i k) i) := by
         have := up_step HQ.out.2 HI.out.2.2.2 HI.out.2.1 (by rw [HI.out.1]; exact hlt)
         rwa [HI.out.1] at this
       clear hlt e2
       go_wp2_with fail
       refine cl.mono ?_
       rintro e w2 ⟨rfl, E2⟩
       have HQ2 : Hid (QI P b g c w0 l l' w2) := ⟨HQ.out.1.q.ext E2, HQ.out.1.e.trans E2, HQ.out.1.p⟩
       have cs := swap_any P b g c w0 w2 l' i k HQ2.out.q HQ2.out.e HB.out.1 (by have := HI.out; omega) HI.out.2.2.2
       clear cl E2 kb ml
       have kb := HQ2.out.q.cell.1
       go_wp2_with fail
       refine cs.mono ?_
       rintro e w3 ⟨rfl, Q3, E3⟩
       have HQ3 : Hid (QI P b g c w0 l (swp l' i k) w3) := ⟨by rw [swp_len]; exact Q3, E3, (swp_perm (by have := HI.out; omega) HI.out.2.2.2).trans HQ.out.1.p⟩
       clear cs Q3 E3 kb ms
       go_wp2_with fail
       go_roundw
       case rel => exact ⟨i, swp l' i k, rfl, by rw [swp_len]; have := HI.out; omega, HQ3.out, HU.out⟩
       case measure => have := HI.out; simp [intOf]; omega
     · have e2 : decide (gt l' k < gt l' i) = false := by simp; omega
       rw [e2] at cl
       have HP : Hid (Hp l' l'.length) := up_end HQ.out.2 (.inr (by rw [HI.out.1]; exact hge))
       clear hge e2
       go_wp2_with fail
       refine cl.mono ?_
       rintro e w2 ⟨rfl, E2⟩
       have HQ2 : Hid (QI P b g c w0 l l' w2) := ⟨HQ.out.1.q.ext E2, HQ.out.1.e.trans E2, HQ.out.1.p⟩
       clear cl E2 kb ml ms
       go_wp2_with fail
       refine bodyPost_end (v := .tuple #[]) (by simp [results, Try.results25, go_sem]) rfl ?_
       exact ⟨rfl, l', HQ2.out, HP.out⟩

open Go.RowKit
set_option maxHeartbeats 4000000

def BoQ (e : Ending) : Prop := ∃ x : Bool, e = .returned (.bool x)
set_option maxRecDepth 100000 in
theorem down_any (P : Nat → Prop) (b g c n : Nat) (w0 W : World) (l : List Nat) (h : QM P b W l (.slice (some ⟨g, 0, none⟩) l.length c)) (E : ExtP P w0 W) (hb : ∀ k, P k → k < w0.heap.size) (hl : l.length ≤ 5000) (hn : n < l.length) (hD : DnI l n 0) :
   Calls Try.prog 26 #[.iface 48 (.pointer (some ⟨b, 0, none⟩)), .int .i64 0, .int .i64 (n : Int)] W fun e w' => BoQ e ∧ ∃ l', QI P b g c w0 l l' w' ∧ Hp l' n ∧ gt l' n = gt l n := by
 have H0 : Hid (QI P b g c w0 l l W ∧ DnI l n 0) := ⟨⟨h, E, .refl _⟩, hD⟩
 have HB : Hid ((∀ k, P k → k < w0.heap.size) ∧ l.length ≤ 5000 ∧ n < l.length) := ⟨hb, hl, hn⟩
 clear h E hb hn hD hl
 go_enter Try.func26, Try.ntmps26
 go_wp2_with fail
 go_loopw [7] (fun x wr => ∃ (k : Nat) (l' : List Nat), x = .int .i64 (k : Int) ∧ k < l'.length ∧ QI P b g c w0 l l' wr ∧ DnI l' n k ∧ gt l' n = gt l n) (fun x _ => n - (intOf x).toNat)
 case atStart => exact ⟨0, l, rfl, by have := HB.out; omega, H0.out.1, H0.out.2, rfl⟩
 case round =>
   clear H0
   obtain ⟨k, l', rfl, hk, hQ, hU, hz⟩ := hrel
   have HQ : Hid (QI P b g c w0 l l' wr ∧ DnI l' n k ∧ gt l' n = gt l n) := ⟨hQ, hU, hz⟩
   have hlen := hQ.p.length_eq
   have HL : Hid (l'.length = l.length) := hlen
   obtain ⟨d, hd⟩ : ∃ d, 2 * k = d := ⟨_, rfl⟩
   obtain ⟨j1, hj1⟩ : ∃ j1, 2 * k + 1 = j1 := ⟨_, rfl⟩
   obtain ⟨j2, hj2⟩ : ∃ j2, 2 * k + 2 = j2 := ⟨_, rfl⟩
   have m1 : wrap64 (2 * (k : Int)) = (d : Int) := by have := HB.out; have := HL.out; unfold wrap64; omega
   have m2 : wrap64 ((d : Int) + 1) = (j1 : Int) := by have := HB.out; have := HL.out; unfold wrap64; omega
   have m3 : wrap64 ((j1 : Int) + 1) = (j2 : Int) := by have := HB.out; have := HL.out; unfold wrap64; omega
   have HJ : Hid (2 * k + 1 = j1 ∧ 2 * k + 2 = j2 ∧ k < l'.length) := ⟨hj1, hj2, hk⟩
   clear hU hlen hz hd hj1 hj2 hk hQ
   have b0 : ¬ (j1 : Int) < 0 := by omega
   rcases Nat.lt_or_ge j1 n with hjn | hjn
   · have q1 : (j1 : Int) < (n : Int) := by omega
     have q1' : ¬ (n : Int) ≤ (j1 : Int) := by omega
     have kb := HQ.out.1.q.cell.1
     have ml := fun W h => me_less b W (some ⟨g, 0, none⟩) l'.length c h
     have ms := fun W h => me_swap b W (some ⟨g, 0, none⟩) l'.length c h
     have HN : Hid (j1 < n) := hjn
     clear hjn
     rcases Nat.lt_or_ge j2 n with hj2 | hj2
     · have q2 : (j2 : Int) < (n : Int) := by omega
       have HN2 : Hid (j2 < n) := hj2
       obtain ⟨c1, c2⟩ := HQ.out.1.q.at (i := j2) (by have := HB.out; have := HL.out; omega)
       obtain ⟨c3, c4⟩ := HQ.out.1.q.at (i := j1) (by have := HB.out; have := HL.out; have := HN.out; omega)
       have cl := less_any wr g l'.length c j2 j1 _ _ (by have := HB.out; have := HL.out; omega) (by have := HB.out; have := HL.out; have := HN.out; omega) c1 c3
       clear c1 c2 c3 c4 hj2
       rcases Nat.lt_or_ge (gt l' j2) (gt l' j1) with hlt | hge
       · have e2 : decide (gt l' j2 < gt l' j1) = true := by simp [hlt]
         rw [e2] at cl
         have HM : Hid (j2 < n ∧ (j2 = 2 * k + 1 ∨ j2 = 2 * k + 2) ∧ (2 * k + 1 < n → gt l' j2 ≤ gt l' (2 * k + 1)) ∧ (2 * k + 2 < n → gt l' j2 ≤ gt l' (2 * k + 2))) := by
           obtain ⟨z1, z2, _⟩ := HJ.out
           rw [z1, z2]
           exact ⟨HN2.out, .inr rfl, fun _ => Nat.le_of_lt hlt, fun _ => Nat.le_refl _⟩
         clear hlt e2
         go_wp2_with fail
         refine cl.mono ?_
         rintro e w2 ⟨rfl, E2⟩
         have HQ2 : Hid (QI P b g c w0 l l' w2) := ⟨HQ.out.1.q.ext E2, HQ.out.1.e.trans E2, HQ.out.1.p⟩
         clear cl E2 kb
         have kb := HQ2.out.q.cell.1
         obtain ⟨c1, c2⟩ := HQ2.out.q.at (i := j2) (by have := HB.out; have := HL.out; have := HM.out; omega)
         obtain ⟨c3, c4⟩ := HQ2.out.q.at (i := k) HJ.out.2.2
         have cl := less_any w2 g l'.length c j2 k _ _ (by have := HB.out; have := HL.out; have := HM.out; omega) HJ.out.2.2 c1 c3
         clear c1 c2 c3 c4
         rcases Nat.lt_or_ge (gt l' j2) (gt l' k) with hlt | hge
         · have e2 : decide (gt l' j2 < gt l' k) = true := by simp [hlt]
           rw [e2] at cl
           have HU : Hid (DnI (swp l' k j2) n j2) := dn_step HQ.out.2.1 (by have := HB.out; have := HL.out; omega) HM.out.1 HM.out.2.1 hlt HM.out.2.2.1 HM.out.2.2.2
           clear hlt e2
           go_wp2_with fail
           refine cl.mono ?_
           rintro e w3 ⟨rfl, E3⟩
           have HQ3 : Hid (QI P b g c w0 l l' w3) := ⟨HQ2.out.q.ext E3, HQ2.out.e.trans E3, HQ2.out.p⟩
           have cs := swap_any P b g c w0 w3 l' k j2 HQ3.out.q HQ3.out.e HB.out.1 HJ.out.2.2 (by have := HB.out; have := HL.out; have := HM.out; omega)
           clear cl E3 kb ml
           have kb := HQ3.out.q.cell.1
           go_wp2_with fail
           refine cs.mono ?_
           rintro e w4 ⟨rfl, Q4, E4⟩
           have HQ4 : Hid (QI P b g c w0 l (swp l' k j2) w4) := ⟨by rw [swp_len]; exact Q4, E4, (swp_perm HJ.out.2.2 (by have := HB.out; have := HL.out; have := HM.out; omega)).trans HQ.out.1.p⟩
           have HZ : Hid (gt (swp l' k j2) n = gt l n) := by
             show _ = _
             rw [swp_k (by have := HJ.out; have := HM.out; omega) (by have := HM.out; omega)]
             exact HQ.out.2.2
           clear cs Q4 E4 kb ms
           go_wp2_with fail
           go_roundw
           case rel => exact ⟨j2, swp l' k j2, rfl, by rw [swp_len]; have := HB.out; have := HL.out; have := HM.out; omega, HQ4.out, HU.out, HZ.out⟩
           case measure => have := HM.out; have := HJ.out; simp [intOf]; omega
         · have e2 : decide (gt l' j2 < gt l' k) = false := by simp; omega
           rw [e2] at cl
           have HP : Hid (Hp l' n) := dn_end HQ.out.2.1 (fun h => Nat.le_trans hge (HM.out.2.2.1 h)) (fun h => Nat.le_trans hge (HM.out.2.2.2 h))
           clear hge e2
           go_wp2_with fail
           refine cl.mono ?_
           rintro e w3 ⟨rfl, E3⟩
           have HQ3 : Hid (QI P b g c w0 l l' w3) := ⟨HQ2.out.q.ext E3, HQ2.out.e.trans E3, HQ2.out.p⟩
           clear cl E3 kb ml ms
           go_wp2_with fail
           go_ret
           exact ⟨⟨_, rfl⟩, l', HQ3.out, HP.out, HQ.out.2.2⟩
       · have e2 : decide (gt l' j2 < gt l' j1) = false := by simp; omega
         rw [e2] at cl
         have HM : Hid (j1 < n ∧ (j1 = 2 * k + 1 ∨ j1 = 2 * k + 2) ∧ (2 * k + 1 < n → gt l' j1 ≤ gt l' (2 * k + 1)) ∧ (2 * k + 2 < n → gt l' j1 ≤ gt l' (2 * k + 2))) := by
           obtain ⟨z1, z2, _⟩ := HJ.out
           rw [z1, z2]
           exact ⟨HN.out, .inl rfl, fun _ => Nat.le_refl _, fun _ => hge⟩
         clear hge e2
         go_wp2_with fail
         refine cl.mono ?_
         rintro e w2 ⟨rfl, E2⟩
         have HQ2 : Hid (QI P b g c w0 l l' w2) := ⟨HQ.out.1.q.ext E2, HQ.out.1.e.trans E2, HQ.out.1.p⟩
         clear cl E2 kb
         have kb := HQ2.out.q.cell.1
         obtain ⟨c1, c2⟩ := HQ2.out.q.at (i := j1) (by have := HB.out; have := HL.out; have := HM.out; omega)
         obtain ⟨c3, c4⟩ := HQ2.out.q.at (i := k) HJ.out.2.2
         have cl := less_any w2 g l'.length c j1 k _ _ (by have := HB.out; have := HL.out; have := HM.out; omega) HJ.out.2.2 c1 c3
         clear c1 c2 c3 c4
         rcases Nat.lt_or_ge (gt l' j1) (gt l' k) with hlt | hge
         · have e2 : decide (gt l' j1 < gt l' k) = true := by simp [hlt]
           rw [e2] at cl
           have HU : Hid (DnI (swp l' k j1) n j1) := dn_step HQ.out.2.1 (by have := HB.out; have := HL.out; omega) HM.out.1 HM.out.2.1 hlt HM.out.2.2.1 HM.out.2.2.2
           clear hlt e2
           go_wp2_with fail
           refine cl.mono ?_
           rintro e w3 ⟨rfl, E3⟩
           have HQ3 : Hid (QI P b g c w0 l l' w3) := ⟨HQ2.out.q.ext E3, HQ2.out.e.trans E3, HQ2.out.p⟩
           have cs := swap_any P b g c w0 w3 l' k j1 HQ3.out.q HQ3.out.e HB.out.1 HJ.out.2.2 (by have := HB.out; have := HL.out; have := HM.out; omega)
           clear cl E3 kb ml
           have kb := HQ3.out.q.cell.1
           go_wp2_with fail
           refine cs.mono ?_
           rintro e w4 ⟨rfl, Q4, E4⟩
           have HQ4 : Hid (QI P b g c w0 l (swp l' k j1) w4) := ⟨by rw [swp_len]; exact Q4, E4, (swp_perm HJ.out.2.2 (by have := HB.out; have := HL.out; have := HM.out; omega)).trans HQ.out.1.p⟩
           have HZ : Hid (gt (swp l' k j1) n = gt l n) := by
             show _ = _
             rw [swp_k (by have := HJ.out; have := HM.out; omega) (by have := HM.out; omega)]
             exact HQ.out.2.2
           clear cs Q4 E4 kb ms
           go_wp2_with fail
           go_roundw
           case rel => exact ⟨j1, swp l' k j1, rfl, by rw [swp_len]; have := HB.out; have := HL.out; have := HM.out; omega, HQ4.out, HU.out, HZ.out⟩
           case measure => have := HM.out; have := HJ.out; simp [intOf]; omega
         · have e2 : decide (gt l' j1 < gt l' k) = false := by simp; omega
           rw [e2] at cl
           have HP : Hid (Hp l' n) := dn_end HQ.out.2.1 (fun h => Nat.le_trans hge (HM.out.2.2.1 h)) (fun h => Nat.le_trans hge (HM.out.2.2.2 h))
           clear hge e2
           go_wp2_with fail
           refine cl.mono ?_
           rintro e w3 ⟨rfl, E3⟩
           have HQ3 : Hid (QI P b g c w0 l l' w3) := ⟨HQ2.out.q.ext E3, HQ2.out.e.trans E3, HQ2.out.p⟩
           clear cl E3 kb ml ms
           go_wp2_with fail
           go_ret
           exact ⟨⟨_, rfl⟩, l', HQ3.out, HP.out, HQ.out.2.2⟩
     · have q2 : ¬ (j2 : Int) < (n : Int) := by omega
       have HM : Hid (j1 < n ∧ (j1 = 2 * k + 1 ∨ j1 = 2 * k + 2) ∧ (2 * k + 1 < n → gt l' j1 ≤ gt l' (2 * k + 1)) ∧ (2 * k + 2 < n → gt l' j1 ≤ gt l' (2 * k + 2))) := by
         obtain ⟨z1, z2, _⟩ := HJ.out
         rw [z1, z2]
         exact ⟨HN.out, .inl rfl, fun _ => Nat.le_refl _, fun h => by omega⟩
       clear hj2
       have HQ2 : Hid (QI P b g c w0 l l' wr) := HQ.out.1
       obtain ⟨c1, c2⟩ := HQ2.out.q.at (i := j1) (by have := HB.out; have := HL.out; have := HM.out; omega)
       obtain ⟨c3, c4⟩ := HQ2.out.q.at (i := k) HJ.out.2.2
       have cl := less_any wr g l'.length c j1 k _ _ (by have := HB.out; have := HL.out; have := HM.out; omega) HJ.out.2.2 c1 c3
       clear c1 c2 c3 c4
       rcases Nat.lt_or_ge (gt l' j1) (gt l' k) with hlt | hge
       · have e2 : decide (gt l' j1 < gt l' k) = true := by simp [hlt]
         rw [e2] at cl
         have HU : Hid (DnI (swp l' k j1) n j1) := dn_step HQ.out.2.1 (by have := HB.out; have := HL.out; omega) HM.out.1 HM.out.2.1 hlt HM.out.2.2.1 HM.out.2.2.2
         clear hlt e2
         go_wp2_with fail
         refine cl.mono ?_
         rintro e w3 ⟨rfl, E3⟩
         have HQ3 : Hid (QI P b g c w0 l l' w3) := ⟨HQ2.out.q.ext E3, HQ2.out.e.trans E3, HQ2.out.p⟩
         have cs := swap_any P b g c w0 w3 l' k j1 HQ3.out.q HQ3.out.e HB.out.1 HJ.out.2.2 (by have := HB.out; have := HL.out; have := HM.out; omega)
         clear cl E3 kb ml
         have kb := HQ3.out.q.cell.1
         go_wp2_with fail
         refine cs.mono ?_
         rintro e w4 ⟨rfl, Q4, E4⟩
         have HQ4 : Hid (QI P b g c w0 l (swp l' k j1) w4) := ⟨by rw [swp_len]; exact Q4, E4, (swp_perm HJ.out.2.2 (by have := HB.out; have := HL.out; have := HM.out; omega)).trans HQ.out.1.p⟩
         have HZ : Hid (gt (swp l' k j1) n = gt l n) := by
           show _ = _
           rw [swp_k (by have := HJ.out; have := HM.out; omega) (by have := HM.out; omega)]
           exact HQ.out.2.2
         clear cs Q4 E4 kb ms
         go_wp2_with fail
         go_roundw
         case rel => exact ⟨j1, swp l' k j1, rfl, by rw [swp_len]; have := HB.out; have := HL.out; have := HM.out; omega, HQ4.out, HU.out, HZ.out⟩
         case measure => have := HM.out; have := HJ.out; simp [intOf]; omega
       · have e2 : decide (gt l' j1 < gt l' k) = false := by simp; omega
         rw [e2] at cl
         have HP : Hid (Hp l' n) := dn_end HQ.out.2.1 (fun h => Nat.le_trans hge (HM.out.2.2.1 h)) (fun h => Nat.le_trans hge (HM.out.2.2.2 h))
         clear hge e2
         go_wp2_with fail
         refine cl.mono ?_
         rintro e w3 ⟨rfl, E3⟩
         have HQ3 : Hid (QI P b g c w0 l l' w3) := ⟨HQ2.out.q.ext E3, HQ2.out.e.trans E3, HQ2.out.p⟩
         clear cl E3 kb ml ms
         go_wp2_with fail
         go_ret
         exact ⟨⟨_, rfl⟩, l', HQ3.out, HP.out, HQ.out.2.2⟩
   · have q1 : ¬ (j1 : Int) < (n : Int) := by omega
     have q1' : (n : Int) ≤ (j1 : Int) := by omega
     have HP : Hid (Hp l' n) := dn_end HQ.out.2.1 (fun h => by have := HJ.out; omega) (fun h => by have := HJ.out; omega)
     clear hjn
     go_wp2_with fail
     go_ret
     exact ⟨⟨_, rfl⟩, l', HQ.out.1, HP.out, HQ.out.2.2⟩
end Go.Proofs.Ytcjenjeggmlanaa
