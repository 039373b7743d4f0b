/-
  Lists of spans that the call owns: blocks of cells known whole; append.
-/
import Derived.Test.YtgphjbkadjagpaaSpA
namespace Go.Proofs.Ytgphjbkadjagpaa
open Go.RowKit
set_option maxHeartbeats 1000000

def flat : List Sp → List Value
  | [] => []
  | s :: r => .int .i64 s.1 :: .int .i64 s.2 :: flat r
theorem flat_append (a b : List Sp) : flat (a ++ b) = flat a ++ flat b := by
  induction a with
  | nil => rfl
  | cons s r ih => simp [flat, ih]
theorem flat_length (a : List Sp) : (flat a).length = a.length * 2 := by
  induction a with
  | nil => rfl
  | cons s r ih => simp [flat, ih]; omega
theorem flat_one (a : List Sp) : ∀ u ∈ flat a, u.oneCell' = true := by
  induction a with
  | nil => simp [flat]
  | cons s r ih => intro u hu; simp [flat] at hu; rcases hu with rfl | rfl | hu; rfl; rfl; exact ih u hu
theorem flat_at : ∀ (a : List Sp) (i : Nat) (s : Sp), a[i]? = some s → (flat a)[i * 2]? = some (.int .i64 s.1) ∧ (flat a)[i * 2 + 1]? = some (.int .i64 s.2)
  | [], _, _, h => by simp at h
  | t :: r, 0, s, h => by simp at h; subst h; simp [flat]
  | t :: r, i + 1, s, h => by
    have ih := flat_at r i s (by simpa using h)
    have e : (i + 1) * 2 = i * 2 + 1 + 1 := by omega
    have e' : (i + 1) * 2 + 1 = i * 2 + 1 + 1 + 1 := by omega
    rw [e', e]
    simpa [flat] using ih
theorem flat_get (a : List Sp) (j : Nat) (u : Value) (h : (flat a)[j]? = some u) : ∃ s, a[j / 2]? = some s ∧ u = .int .i64 (if j % 2 = 0 then s.1 else s.2) := by
  have hj : j < (flat a).length := (List.getElem?_eq_some_iff.mp h).1
  rw [flat_length] at hj
  have hk : j / 2 < a.length := by omega
  refine ⟨a[j / 2], List.getElem?_eq_getElem hk, ?_⟩
  obtain ⟨k1, k2⟩ := flat_at a (j / 2) a[j / 2] (List.getElem?_eq_getElem hk)
  by_cases hm : j % 2 = 0
  · rw [if_pos hm]
    have e : j / 2 * 2 = j := by omega
    rw [e, h] at k1; exact Option.some.inj k1
  · rw [if_neg hm]
    have e : j / 2 * 2 + 1 = j := by omega
    rw [e, h] at k2; exact Option.some.inj k2

theorem info_sp : ∃ i, Try.prog.info? 28 = some i ∧ i.zero = some (.agg #[.int .i64 0, .int .i64 0]) ∧ i.size = 2 ∧ i.bytes = 16 := by
  have h1 : (Try.prog.info? 28).isSome = true := by kernel_rfl
  have h2 : (Try.prog.info? 28).bind (fun i => i.zero) = some (.agg #[.int .i64 0, .int .i64 0]) := by kernel_rfl
  have h3 : (Try.prog.info? 28).map (fun i => (i.size, i.bytes)) = some (2, 16) := by kernel_rfl
  cases h : Try.prog.info? 28 with
  | none => rw [h] at h1; cases h1
  | some i =>
    rw [h] at h2 h3
    simp at h2 h3
    exact ⟨i, rfl, h2, h3.1, h3.2⟩

/-- v holds the spans l in a block of the call's own that holds rst behind them. -/
def Bk (w : World) (base : Nat) (v : Value) (l : List Sp) (rst : List Value) : Prop :=
  (v = .slice none 0 0 ∧ l = [] ∧ rst = []) ∨ ∃ g cap cur, v = .slice (some ⟨g, 0, none⟩) l.length cap ∧ base ≤ g ∧ w.heap[g]? = some (.cells cur 28 (0, 0)) ∧ cap ≤ maxLen ∧ cur.size = cap * 2 ∧ cur.toList = flat l ++ rst
/-- .. whatever lies behind them. -/
def Ow (w : World) (base : Nat) (v : Value) (l : List Sp) : Prop := ∃ rst, Bk w base v l rst
theorem blk_lt {w : World} {g : Nat} {o : Obj} (h : w.heap[g]? = some o) : g < w.heap.size := by
  rcases Nat.lt_or_ge g w.heap.size with k | k
  · exact k
  · rw [Array.getElem?_eq_none k] at h; cases h
theorem Bk.ext {w w' : World} {base : Nat} {v : Value} {l : List Sp} {rst : List Value} (h : Bk w base v l rst) (e : Ext w w') : Bk w' base v l rst := by
  rcases h with h | ⟨g, cap, cur, h1, h2, h3, h4⟩
  · exact .inl h
  · exact .inr ⟨g, cap, cur, h1, h2, (e.block g (blk_lt h3)).trans h3, h4⟩
theorem Bk.mono {w : World} {base base' : Nat} {v : Value} {l : List Sp} {rst : List Value} (h : Bk w base v l rst) (e : base' ≤ base) : Bk w base' v l rst := by
  rcases h with h | ⟨g, cap, cur, h1, h2, h3⟩
  · exact .inl h
  · exact .inr ⟨g, cap, cur, h1, Nat.le_trans e h2, h3⟩
theorem Bk.owns {w : World} {base : Nat} {v : Value} {l : List Sp} {rst : List Value} (h : Bk w base v l rst) : w.ownsRow base 28 2 v l.length (flat l) := by
  refine ⟨flat_length l, ?_⟩
  rcases h with ⟨rfl, rfl, rfl⟩ | ⟨g, cap, cur, rfl, h2, h3, h4, h5, h6⟩
  · exact .inl ⟨rfl, rfl⟩
  · have e := congrArg List.length h6
    simp [flat_length] at e
    refine .inr ⟨g, cap, cur, rfl, h2, h3, by omega, h4, h5, ?_⟩
    rw [h6, ← flat_length]; exact List.take_left
theorem Ow.of {w : World} {base n : Nat} {v : Value} {l : List Sp} {xs : List Value} (h : w.ownsRow base 28 2 v n xs) (hn : n = l.length) (hx : xs = flat l) : Ow w base v l := by
  subst hn hx
  rcases h.2 with ⟨h1, h2⟩ | ⟨g, cap, cur, h1, h2, h3, h4, h5, h6, h7⟩
  · exact ⟨[], .inl ⟨h1, List.eq_nil_of_length_eq_zero h2, rfl⟩⟩
  · refine ⟨cur.toList.drop (l.length * 2), .inr ⟨g, cap, cur, h1, h2, h3, h5, h6, ?_⟩⟩
    rw [← h7]; exact (List.take_append_drop _ _).symm
theorem Ow.ext {w w' : World} {base : Nat} {v : Value} {l : List Sp} (h : Ow w base v l) (e : Ext w w') : Ow w' base v l := by
  obtain ⟨rst, h⟩ := h; exact ⟨rst, h.ext e⟩
theorem Ow.mono {w : World} {base base' : Nat} {v : Value} {l : List Sp} (h : Ow w base v l) (e : base' ≤ base) : Ow w base' v l := by
  obtain ⟨rst, h⟩ := h; exact ⟨rst, h.mono e⟩
theorem Bk.rd {w : World} {base : Nat} {v : Value} {l : List Sp} {rst : List Value} (h : Bk w base v l rst) : Rd w v l := by
  rcases h with ⟨h1, h2, _⟩ | ⟨g, cap, cur, rfl, h2, h3, h4, h5, h6⟩
  · exact .inl ⟨h1, h2⟩
  · have e := congrArg List.length h6
    simp [flat_length] at e
    refine .inr ⟨g, 0, cap, rfl, by omega, blk_lt h3, fun i s hs => ?_⟩
    have hl : i < l.length := (List.getElem?_eq_some_iff.mp hs).1
    obtain ⟨k1, k2⟩ := flat_at l i s hs
    rw [cell_of_row w g _ cur _ (0, 0) h3, cell_of_row w g _ cur _ (0, 0) h3]
    have f1 : cur[0 + i * 2]? = cur.toList[i * 2]? := by rw [Nat.zero_add, Array.getElem?_toList]
    have f2 : cur[0 + i * 2 + 1]? = cur.toList[i * 2 + 1]? := by rw [Nat.zero_add, Array.getElem?_toList]
    rw [f1, f2, h6, List.getElem?_append_left (by rw [flat_length]; omega), List.getElem?_append_left (by rw [flat_length]; omega)]
    exact ⟨k1, k2⟩
theorem Ow.rd {w : World} {base : Nat} {v : Value} {l : List Sp} (h : Ow w base v l) : Rd w v l := by
  obtain ⟨rst, h⟩ := h; exact h.rd
theorem Rd.news {w : World} {b off n c : Nat} {l : List Sp} (h : Rd w (.slice (some ⟨b, off, none⟩) n c) l) : n = l.length ∧ ∀ j u, (flat l)[j]? = some u → w.cell? ((⟨b, off, none⟩ : Addr).add j) = some u := by
  rcases h with ⟨h1, _⟩ | ⟨b', off', c', h1, h2, h3, h4⟩
  · cases h1
  · simp at h1
    obtain ⟨⟨rfl, rfl⟩, rfl, rfl⟩ := h1
    refine ⟨rfl, fun j u hu => ?_⟩
    rw [Addr.add_lit]
    obtain ⟨s, hs, rfl⟩ := flat_get l j u hu
    obtain ⟨k1, k2⟩ := h4 _ s hs
    by_cases hm : j % 2 = 0
    · rw [if_pos hm]
      have e : off + j / 2 * 2 = off + j := by omega
      rw [← e]; exact k1
    · rw [if_neg hm]
      have e : off + j / 2 * 2 + 1 = off + j := by omega
      rw [← e]; exact k2
theorem ext_grown {w W W' : World} {base : Nat} {v : Value} {l : List Sp} {rst : List Value} (hB : Bk W base v l rst) (hb : w.heap.size ≤ base) (hE : Ext w W) (hg : W.grownBy W' v.ownBlock) : Ext w W' := by
  refine ⟨hg.os.trans hE.os, hg.tape.trans hE.tape, hg.output.trans hE.output, Nat.le_trans hE.size hg.size, fun k hk => ?_⟩
  refine (hg.block k (Nat.lt_of_lt_of_le hk hE.size) ?_).trans (hE.block k hk)
  intro e
  rcases hB with ⟨rfl, _⟩ | ⟨g, cap, cur, rfl, h2, _⟩
  · cases e
  · simp [Value.ownBlock] at e; omega

/-- append, at the operation: behind it the spans lie in the same block, if there was room. -/
theorem bk_append {ops : Array Oper} {rest : List Oper} {o : Oper} {a : Act} {Q : Exit → Act → World → Prop} (W w : World) (s x : Operand) (v : Value) (b off n c : Nat) (l m : List Sp) (rst : List Value) (hgd : o.guard = none)
    (ho : o.op = .call { callee := .builtin .append, args := #[s, x], argTypes := #[22, 22] })
    (hs : a.eval s = v) (hx : a.eval x = .slice (some ⟨b, off, none⟩) n c) (hB : Bk W w.heap.size v l rst) (hR : Rd W (.slice (some ⟨b, off, none⟩) n c) m) (hlen : l.length + m.length ≤ 100000) (hE : Ext w W)
    (h : ∀ v' rst' W', Bk W' w.heap.size v' (l ++ m) rst' → (0 < m.length → m.length * 2 ≤ rst.length → v'.ownBlock = v.ownBlock ∧ (∃ p n1 n2 cap, v = .slice p n1 cap ∧ v' = .slice p n2 cap) ∧ rst' = rst.drop (m.length * 2)) → Ext w W' → W.grownBy W' v.ownBlock → wpList Try.prog ops Q rest (a.put o.dst v') W') : wpList Try.prog ops Q (o :: rest) a W := by
  obtain ⟨i, hi, hz, h1, h2⟩ := info_sp
  obtain ⟨rfl, hnews⟩ := hR.news
  by_cases hroom : m.length * 2 ≤ rst.length ∧ 0 < m.length
  · rcases hB with ⟨rfl, rfl, rfl⟩ | ⟨g, cap, cur, rfl, k2, k3, k4, k5, k6⟩
    · simp at hroom; omega
    · have e := congrArg List.length k6
      simp [flat_length] at e
      have hr := run_append_room (P := Try.prog) W 22 o.type 28 i Try.underlying22 hi g l.length cap cur k3 ⟨b, off, none⟩ m.length c (flat m) (by rw [flat_length, h1]) hnews (flat_one m) (by omega) (by rw [flat_length, h1]; omega)
      rw [h1] at hr
      refine wpList_plain hgd fun K hK => ?_
      unfold Oper.wp execOp
      simp only [ho, resolve, invoke, builtin, Sem.run_bind, Sem.run_pure, Result.andThen_ok, List.map_toArray, List.map_cons, List.map_nil, hs, hx, hr]
      refine hK _ _ (h _ (rst.drop (m.length * 2)) _ ?_ (fun _ _ => ⟨rfl, ⟨_, _, _, _, rfl, rfl⟩, rfl⟩) ?_ ?_)
      · refine .inr ⟨g, cap, _, by rw [List.length_append], k2, setRow_heap W g cur _ _ _ k3, k4, ?_, ?_⟩
        · simp [flat_length]; omega
        · simp only []
          rw [k6, ← flat_length l, List.take_left, flat_append]
          congr 1
          rw [← List.drop_drop, List.drop_left, flat_length]
      · refine ext_grown (v := .slice (some ⟨g, 0, none⟩) l.length cap) (l := l) (rst := rst) (.inr ⟨g, cap, cur, rfl, k2, k3, k4, k5, k6⟩) (Nat.le_refl _) hE ?_
        exact ⟨rfl, rfl, rfl, by simp, fun k _ hk => setRow_other W g k _ (fun e => hk (by simp [Value.ownBlock, e]))⟩
      · exact ⟨rfl, rfl, rfl, by simp, fun k _ hk => setRow_other W g k _ (fun e => hk (by simp [Value.ownBlock, e]))⟩
  · refine wpList_append_own_at W hgd s x 22 ho w.heap.size 28 i _ 2 16 Try.underlying22 hi hz h1 h2 rfl (by decide) v l.length (flat l) hs hB.owns ⟨b, off, none⟩ m.length c (flat m) hx (flat_length m) hnews (flat_one m) (by unfold maxLen; omega) (by omega) hE.size ?_
    intro v' W' h3 h4 _ _
    obtain ⟨rst', h6⟩ := Ow.of h3 (List.length_append).symm (flat_append l m).symm
    exact h v' rst' W' h6 (fun h7 h8 => absurd ⟨h8, h7⟩ hroom) (ext_grown hB (Nat.le_refl _) hE h4) h4
end Go.Proofs.Ytgphjbkadjagpaa
