/-
  Words in slices that the call made: append.
-/
import Derived.Test.YtbonaldlljdaoaaSame
namespace Go.Proofs.Ytbonaldlljdaoaa
open Go.RowKit
set_option maxHeartbeats 1000000

/-- A word as a value. -/
def wordV (x : Nat) : Value := .int .u64 (x : Int)
theorem info_word : ∃ i, Try.prog.info? 22 = some i ∧ i.zero = some (.int .u64 0) ∧ i.size = 1 ∧ i.bytes = 8 := by
  have h1 : (Try.prog.info? 22).isSome = true := by kernel_rfl
  have h2 : (Try.prog.info? 22).bind (fun i => i.zero) = some (.int .u64 0) := by kernel_rfl
  have h3 : (Try.prog.info? 22).map (fun i => (i.size, i.bytes)) = some (1, 8) := by kernel_rfl
  cases h : Try.prog.info? 22 with
  | none => rw [h] at h1; cases h1
  | some i =>
    rw [h] at h2 h3
    simp at h2 h3
    exact ⟨i, rfl, h2, h3.1, h3.2⟩
/-- v holds the words l, in a block that the call made. -/
def OwnN (w : World) (base : Nat) (v : Value) (l : List Nat) : Prop :=
  (∃ g cap, v = .slice (some ⟨g, 0, none⟩) l.length cap) ∧ w.ownsRow base 22 1 v l.length (l.map wordV)
theorem OwnN.row {w : World} {base : Nat} {v : Value} {l : List Nat} (h : OwnN w base v l) : RowN w v l := by
  obtain ⟨⟨g, cap, rfl⟩, h2⟩ := h
  rcases h2.2 with ⟨h3, _⟩ | ⟨g', cap', cur, h3, h4, h5, h6, _⟩
  · cases h3
  · simp at h3
    obtain ⟨rfl, rfl⟩ := h3
    refine .inr ⟨g, 0, cap, rfl, ?_, ?_⟩
    · rcases Nat.lt_or_ge g w.heap.size with k | k
      · exact k
      · rw [Array.getElem?_eq_none k] at h5; cases h5
    · intro i x hx
      have := h2.cells (g := g) rfl i (wordV x) (by rw [List.getElem?_map, hx]; rfl)
      rw [Nat.zero_add]
      have ha : (⟨g, 0, none⟩ : Addr).add i = ⟨g, i, none⟩ := by unfold Addr.add; split <;> simp_all
      rwa [ha] at this
theorem OwnN.alloc {w : World} {base : Nat} {v : Value} {l : List Nat} (h : OwnN w base v l) (o : Obj) : OwnN (w.alloc o) base v l := ⟨h.1, h.2.alloc o⟩
theorem OwnN.drew {w : World} {base : Nat} {v : Value} {l : List Nat} (h : OwnN w base v l) : OwnN w.drew base v l := h
theorem OwnN.ext {w w' : World} {base : Nat} {v : Value} {l : List Nat} (h : OwnN w base v l) (e : Ext w w') : OwnN w' base v l := by
  obtain ⟨⟨g, cap, rfl⟩, h1, h2⟩ := h
  refine ⟨⟨g, cap, rfl⟩, h1, ?_⟩
  rcases h2 with ⟨h3, _⟩ | ⟨g', cap', cur, h3, h4, h5, h6⟩
  · cases h3
  · refine .inr ⟨g', cap', cur, h3, h4, ?_, h6⟩
    rw [← h5]
    refine e.block g' ?_
    rcases Nat.lt_or_ge g' w.heap.size with k | k
    · exact k
    · rw [Array.getElem?_eq_none k] at h5; cases h5
theorem ownN_new (w W : World) (h : w.heap.size ≤ W.heap.size) : OwnN (W.alloc (.cells #[] 22)) w.heap.size (.slice (some ⟨W.heap.size, 0, none⟩) 0 0) [] :=
  ⟨⟨_, _, rfl⟩, World.ownsRow_made W #[] 0 h (by unfold maxLen; omega) (by simp)⟩
/-- append, at the operation. -/
theorem ownN_append {ops : Array Oper} {rest : List Oper} {o : Oper} {a : Act} {Q : Exit → Act → World → Prop} (W w : World) (s x : Operand) (v va : Value) (l m : List Nat) (hgd : o.guard = none)
    (ho : o.op = .call { callee := .builtin .append, args := #[s, x], argTypes := #[39, 39] })
    (hs : a.eval s = v) (hx : a.eval x = va) (hown : OwnN W w.heap.size v l) (b oo c : Nat) (hva : va = .slice (some ⟨b, oo, none⟩) m.length c) (hcell : ∀ i x, m[i]? = some x → W.cell? ⟨b, oo + i, none⟩ = some (wordV x)) (hlen : l.length + m.length ≤ 100000) (hE : Ext w W)
    (h : ∀ v' W', OwnN W' w.heap.size v' (l ++ m) → Ext w W' → wpList Try.prog ops Q rest (a.put o.dst v') W') : wpList Try.prog ops Q (o :: rest) a W := by
  obtain ⟨i, hi, hz, h1, h2⟩ := info_word
  subst hva
  obtain ⟨⟨g, cap, rfl⟩, hown⟩ := hown
  refine wpList_append_own_at W hgd s x 39 ho w.heap.size 22 i (.int .u64 0) 1 8 Try.underlying39 hi hz h1 h2 rfl (by decide) _ l.length (l.map wordV) hs hown ⟨b, oo, none⟩ m.length c (m.map wordV) hx (by simp) ?_ ?_ (by unfold maxLen; omega) (by omega) hE.size ?_
  · intro j u hu
    have ha : (⟨b, oo, none⟩ : Addr).add j = ⟨b, oo + j, none⟩ := by unfold Addr.add; split <;> simp_all
    rw [ha]
    rw [List.getElem?_map] at hu
    cases hm : m[j]? with
    | none => rw [hm] at hu; simp at hu
    | some y => rw [hm] at hu; simp at hu; subst hu; exact hcell j y hm
  · intro u hu
    rw [List.mem_map] at hu
    obtain ⟨y, _, rfl⟩ := hu
    rfl
  · intro v' W' h3 h4 h5 h6
    have hbase := (hown.lt g rfl).1
    refine h v' W' ⟨?_, by rw [List.map_append, List.length_append]; exact h3⟩ ?_
    · rw [List.length_append]
      rcases h3.2 with ⟨k1, k2⟩ | ⟨g', cap', cur, k1, _⟩
      · exfalso
        have := (h5.mp k1).1
        cases this
      · exact ⟨g', cap', k1⟩
    · refine ⟨h4.os.trans hE.os, h4.tape.trans hE.tape, h4.output.trans hE.output, Nat.le_trans hE.size h4.size, fun k hk => ?_⟩
      refine (h4.block k (Nat.lt_of_lt_of_le hk hE.size) ?_).trans (hE.block k hk)
      intro e
      simp [Value.ownBlock] at e
      omega
theorem word_new (W : World) (x : Nat) : ∀ i y, [x][i]? = some y → (W.alloc (.cells #[.int .u64 (x : Int)] 22)).cell? ⟨W.heap.size, 0 + i, none⟩ = some (wordV y) := by
  intro i y hy
  cases i with
  | zero => simp at hy; subst hy; simp [go_sem, wordV]
  | succ i => simp at hy
/-- A float's kind. -/
def kindI (b : Nat) : Int := if expo b = 2047 then (if b % 4503599627370496 = 0 then 1 else 2) else 0
theorem kind_any (b : Nat) (hb : b < 18446744073709551616) (w : World) : Calls Try.prog 22 #[.int .u64 b] w fun e w' => e = .returned (.int .i64 (kindI b)) ∧ w' = w := by
  have e1 : (b : Int) / 4503599627370496 % 2048 = (expo b : Int) := by unfold expo; omega
  unfold kindI
  by_cases h : expo b = 2047
  · rw [if_pos h]
    rw [h] at e1
    have e2 : ((b : Int) / 4503599627370496 % 2048 != 2047) = false := by rw [e1]; rfl
    by_cases h0 : b % 4503599627370496 = 0
    · rw [if_pos h0]
      have e3 : ((b : Int) % 4503599627370496 == 0) = true := by simp; omega
      clear h h0 e1
      go_enter Try.func22, Try.ntmps22
      go_wp2
      go_ret
      exact ⟨rfl, rfl⟩
    · rw [if_neg h0]
      have e3 : ((b : Int) % 4503599627370496 == 0) = false := by simp; omega
      clear h h0 e1
      go_enter Try.func22, Try.ntmps22
      go_wp2
      go_ret
      exact ⟨rfl, rfl⟩
  · rw [if_neg h]
    have e2 : ((b : Int) / 4503599627370496 % 2048 != 2047) = true := by rw [e1]; simp; omega
    clear h e1
    go_enter Try.func22, Try.ntmps22
    go_wp2
    go_ret
    exact ⟨rfl, rfl⟩
theorem nan_any (w : World) : Calls Try.prog 23 #[] w fun e w' => e = .returned (.int .u64 9221120237041090560) ∧ w' = w := by
  go_enter Try.func23, Try.ntmps23
  go_wp2
  go_ret
  exact ⟨rfl, rfl⟩
end Go.Proofs.Ytbonaldlljdaoaa
