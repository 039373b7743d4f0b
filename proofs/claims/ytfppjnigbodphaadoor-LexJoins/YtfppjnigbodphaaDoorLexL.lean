/-
  Lists of words in a world: slices of structs of five fields, read and owned; append.
-/
import Derived.Test.YtfppjnigbodphaaDoorLexB
import Derived.Deep.AppendLies
import Derived.Laws.OwnMore
import Derived.WalkLawsBesides
import Derived.Laws.StructEq
import Derived.Shelf.SlicesE.Kit
namespace Go.Proofs.YtfppjnigbodphaaDoor
open Go.RowKit
set_option maxHeartbeats 1000000

def flatT : List Tk → List Value
  | [] => []
  | t :: r => .int .i64 t.1 :: .int .i64 t.2.1 :: .string (bs t.2.2.1) :: .int .i64 t.2.2.2.1 :: .int .i64 t.2.2.2.2 :: flatT r
theorem flatT_append (a b : List Tk) : flatT (a ++ b) = flatT a ++ flatT b := by
  induction a with
  | nil => rfl
  | cons s r ih => simp [flatT, ih]
theorem flatT_length (a : List Tk) : (flatT a).length = a.length * 5 := by
  induction a with
  | nil => rfl
  | cons s r ih => simp [flatT, ih]; omega
theorem flatT_one (a : List Tk) : ∀ u ∈ flatT a, u.oneCell' = true := by
  induction a with
  | nil => simp [flatT]
  | cons s r ih => intro u hu; simp [flatT] at hu; rcases hu with rfl | rfl | rfl | rfl | rfl | hu; rfl; rfl; rfl; rfl; rfl; exact ih u hu
theorem flatT_at : ∀ (a : List Tk) (i : Nat) (t : Tk), a[i]? = some t → (flatT a)[i * 5]? = some (.int .i64 t.1) ∧ (flatT a)[i * 5 + 1]? = some (.int .i64 t.2.1) ∧ (flatT a)[i * 5 + 2]? = some (.string (bs t.2.2.1)) ∧ (flatT a)[i * 5 + 3]? = some (.int .i64 t.2.2.2.1) ∧ (flatT a)[i * 5 + 4]? = some (.int .i64 t.2.2.2.2)
  | [], _, _, h => by simp at h
  | t :: r, 0, s, h => by simp at h; subst h; simp [flatT]
  | t :: r, i + 1, s, h => by
    have ih := flatT_at r i s (by simpa using h)
    have e : (i + 1) * 5 = i * 5 + 1 + 1 + 1 + 1 + 1 := by omega
    have e1 : (i + 1) * 5 + 1 = i * 5 + 1 + 1 + 1 + 1 + 1 + 1 := by omega
    have e2 : (i + 1) * 5 + 2 = i * 5 + 2 + 1 + 1 + 1 + 1 + 1 := by omega
    have e3 : (i + 1) * 5 + 3 = i * 5 + 3 + 1 + 1 + 1 + 1 + 1 := by omega
    have e4 : (i + 1) * 5 + 4 = i * 5 + 4 + 1 + 1 + 1 + 1 + 1 := by omega
    rw [e1, e2, e3, e4, e]
    simpa [flatT] using ih

/-- v holds the words l. -/
def RdT (w : World) (v : Value) (l : List Tk) : Prop :=
  (v = .slice none 0 0 ∧ l = []) ∨ ∃ b off c, v = .slice (some ⟨b, off, none⟩) l.length c ∧ l.length ≤ c ∧ b < w.heap.size ∧
    ∀ j u, (flatT l)[j]? = some u → w.cell? ⟨b, off + j, none⟩ = some u
theorem RdT.ext {w w' : World} {v : Value} {l : List Tk} (h : RdT w v l) (e : Ext w w') : RdT w' v l := by
  rcases h with h | ⟨b, off, c, rfl, h1, h2, h3⟩
  · exact .inl h
  · exact .inr ⟨b, off, c, rfl, h1, Nat.lt_of_lt_of_le h2 e.size, fun j u hu => (e.cell.1 b _ h2).trans (h3 j u hu)⟩
theorem RdT.nil (w : World) : RdT w (.slice none 0 0) [] := .inl ⟨rfl, rfl⟩
theorem RdT.form {w : World} {v : Value} {l : List Tk} (h : RdT w v l) : ∃ p c, v = .slice p l.length c ∧ l.length ≤ c := by
  rcases h with ⟨rfl, rfl⟩ | ⟨b, off, c, rfl, h, _⟩
  · exact ⟨_, _, rfl, Nat.le_refl _⟩
  · exact ⟨_, _, rfl, h⟩
theorem RdT.at {w : World} {p : Option Addr} {c n : Nat} {l : List Tk} (h : RdT w (.slice p n c) l) {k : Nat} (hk : k < l.length) :
    ∃ b off t, p = some ⟨b, off, none⟩ ∧ l[k]? = some t ∧ n = l.length ∧ ∀ w', Ext w w' → w'.cell? ⟨b, off + k * 5, none⟩ = some (.int .i64 t.1) ∧ w'.cell? ⟨b, off + k * 5 + 1, none⟩ = some (.int .i64 t.2.1) ∧ w'.cell? ⟨b, off + k * 5 + 2, none⟩ = some (.string (bs t.2.2.1)) ∧ w'.cell? ⟨b, off + k * 5 + 3, none⟩ = some (.int .i64 t.2.2.2.1) ∧ w'.cell? ⟨b, off + k * 5 + 4, none⟩ = some (.int .i64 t.2.2.2.2) := by
  rcases h with ⟨_, h2⟩ | ⟨b, off, c', h1, h2, h3, h4⟩
  · rw [h2] at hk; simp at hk
  · simp at h1
    obtain ⟨rfl, rfl, rfl⟩ := h1
    refine ⟨b, off, l[k], rfl, List.getElem?_eq_getElem hk, rfl, fun w' e => ?_⟩
    obtain ⟨k0, k1, k2, k3, k4⟩ := flatT_at l k l[k] (List.getElem?_eq_getElem hk)
    exact ⟨(e.cell.1 b _ h3).trans (h4 _ _ k0), (e.cell.1 b _ h3).trans (h4 _ _ k1), (e.cell.1 b _ h3).trans (h4 _ _ k2), (e.cell.1 b _ h3).trans (h4 _ _ k3), (e.cell.1 b _ h3).trans (h4 _ _ k4)⟩

theorem info_tk : ∃ i, Tryd.prog.info? 30 = some i ∧ i.zero = some (.agg #[.int .i64 0, .int .i64 0, .string ⟨#[]⟩, .int .i64 0, .int .i64 0]) ∧ i.size = 5 ∧ i.bytes = 48 := by
  have h2 : (Tryd.prog.info? 30).bind (fun i => i.zero) = some (.agg #[.int .i64 0, .int .i64 0, .string ⟨#[]⟩, .int .i64 0, .int .i64 0]) := by kernel_rfl
  have h3 : (Tryd.prog.info? 30).map (fun i => (i.size, i.bytes)) = some (5, 48) := by kernel_rfl
  cases h : Tryd.prog.info? 30 with
  | none => rw [h] at h2; cases h2
  | some i =>
    rw [h] at h2 h3
    simp at h2 h3
    exact ⟨i, rfl, h2, h3.1, h3.2⟩

/-- v holds the words l in a block of the call's own, from base on. -/
def OwT (w : World) (base : Nat) (v : Value) (l : List Tk) : Prop := w.ownsRow base 30 5 v l.length (flatT l)
theorem heap_lt {w : World} {g : Nat} {o : Obj} (h : w.heap[g]? = some o) : g < w.heap.size := by
  rcases Nat.lt_or_ge g w.heap.size with k | k
  · exact k
  · rw [Array.getElem?_eq_none k] at h; cases h
theorem OwT.ext {w w' : World} {base : Nat} {v : Value} {l : List Tk} (h : OwT w base v l) (e : Ext w w') : OwT w' base v l := by
  refine ⟨h.1, ?_⟩
  rcases h.2 with h2 | ⟨g, cap, cur, h1, h2, h3, h4⟩
  · exact .inl h2
  · exact .inr ⟨g, cap, cur, h1, h2, (e.block g (heap_lt h3)).trans h3, h4⟩
/-- .. whatever turns in another block. -/
theorem OwT.set {w : World} {base : Nat} {v : Value} {l : List Tk} (h : OwT w base v l) {p : Addr} (hp : p.block < base) (u : Value) : OwT (w.setCell p u) base v l := by
  refine ⟨h.1, ?_⟩
  rcases h.2 with h2 | ⟨g, cap, cur, h1, h2, h3, h4⟩
  · exact .inl h2
  · refine .inr ⟨g, cap, cur, h1, h2, ?_, h4⟩
    rw [Below.heap_setCell _ _ _ _ (by omega)]; exact h3
theorem OwT.nil (w : World) (base : Nat) : OwT w base (.slice none 0 0) [] := ⟨rfl, .inl ⟨rfl, rfl⟩⟩
theorem OwT.rd {w : World} {base : Nat} {v : Value} {l : List Tk} (h : OwT w base v l) : RdT w v l := by
  rcases h.2 with ⟨h1, h2⟩ | ⟨g, cap, cur, h1, h2, h3, h4, h5, h6, h7⟩
  · exact .inl ⟨h1, List.eq_nil_of_length_eq_zero h2⟩
  · refine .inr ⟨g, 0, cap, h1, by omega, heap_lt h3, fun j u hu => ?_⟩
    have hj : j < (flatT l).length := (List.getElem?_eq_some_iff.mp hu).1
    rw [flatT_length] at hj
    rw [cell_of_row w g _ cur _ (0, 0) h3, Nat.zero_add, ← Array.getElem?_toList]
    rw [← h7, List.getElem?_take] at hu
    rwa [if_pos (by omega)] at hu
theorem OwT.far {w : World} {base : Nat} {v : Value} {l : List Tk} (h : OwT w base v l) {b : Nat} (hb : b < base) : v.ownBlock ≠ some b := by
  rcases h.2 with ⟨h1, h2⟩ | ⟨g, cap, cur, h1, h2, h3⟩
  · rw [h1]; simp [Value.ownBlock]
  · rw [h1]; simp [Value.ownBlock]; omega

/-- append of one word that lies in a new block, at the operation. -/
theorem tk_append {ops : Array Oper} {rest : List Oper} {o : Oper} {a : Act} {Q : Exit → Act → World → Prop} (W : World) (base : Nat) (s x : Operand) (v : Value) (b : Nat) (l : List Tk) (t : Tk) (hgd : o.guard = none)
    (ho : o.op = .call { callee := .builtin .append, args := #[s, x], argTypes := #[22, 22] })
    (hs : a.eval s = v) (hx : a.eval x = .slice (some ⟨b, 0, none⟩) 1 1) (hB : OwT W base v l)
    (hR : ∀ j u, (flatT [t])[j]? = some u → W.cell? ((⟨b, 0, none⟩ : Addr).add j) = some u) (hlen : l.length ≤ 100000) (hbase : base ≤ W.heap.size)
    (h : ∀ v' W', OwT W' base v' (l ++ [t]) → W.grownBy W' v.ownBlock → (∃ g cap, v' = .slice (some ⟨g, 0, none⟩) (l.length + 1) cap) → wpList Tryd.prog ops Q rest (a.put o.dst v') W') : wpList Tryd.prog ops Q (o :: rest) a W := by
  obtain ⟨i, hi, hz, h1, h2⟩ := info_tk
  refine wpList_append_own_at W hgd s x 22 ho base 30 i _ 5 48 Tryd.underlying22 hi hz h1 h2 rfl (by decide) v l.length (flatT l) hs hB ⟨b, 0, none⟩ 1 1 (flatT [t]) hx (flatT_length [t]) hR (flatT_one [t]) (by unfold maxLen; omega) (by omega) hbase ?_
  intro v' W' h3 h4 _ _
  rw [← flatT_append] at h3
  have h5 : OwT W' base v' (l ++ [t]) := by unfold OwT; rw [List.length_append]; exact h3
  refine h v' W' h5 h4 ?_
  rcases h3.2 with ⟨_, h0⟩ | ⟨g, cap, cur, hv, _⟩
  · omega
  · exact ⟨g, cap, hv⟩
theorem grown_cell {W W' : World} {v : Value} (h : W.grownBy W' v.ownBlock) {b : Nat} (hb : b < W.heap.size) (hne : v.ownBlock ≠ some b) (o : Nat) : W'.cell? ⟨b, o, none⟩ = W.cell? ⟨b, o, none⟩ ∧ W'.frozen? ⟨b, o, none⟩ = W.frozen? ⟨b, o, none⟩ := by
  have e := h.block b hb hne.symm
  simp only [World.cell?, World.frozen?, e]
  exact ⟨trivial, trivial⟩
/-- Of what lay below base nothing turns when a list grows. -/
theorem grown_ext {w W W' : World} {base : Nat} {v : Value} {l : List Tk} (h : W.grownBy W' v.ownBlock) (hB : OwT W base v l) (hE : Ext w W) (hb : w.heap.size ≤ base) : Ext w W' := by
  refine ⟨h.os.trans hE.os, h.tape.trans hE.tape, h.output.trans hE.output, Nat.le_trans hE.size h.size, fun k hk => ?_⟩
  exact (h.block k (Nat.lt_of_lt_of_le hk hE.size) (fun e => hB.far (Nat.lt_of_lt_of_le hk hb) e.symm)).trans (hE.block k hk)
end Go.Proofs.YtfppjnigbodphaaDoor
