/-
  Lists of spans put together: own and few of the law, slices.Grow and slices.Concat, package span's Union.
-/
import Derived.Test.YtgphjbkadjagpaaSpE
import Derived.Lib.AppendZeros
namespace Go.Proofs.Ytgphjbkadjagpaa
open Go.RowKit
set_option maxHeartbeats 1000000

theorem run_append_none (w : World) (ty : TypeId) (p : Option Addr) (n cap : Nat) (h : n ≤ cap) :
    (Builtin.append_ #[22, 22] ty #[.slice p n cap, .slice none 0 0]).run Try.prog w = .ok (.slice p n cap) w := by
  obtain ⟨i, hi, hz, h1, h2⟩ := info_sp
  cases p with
  | none => simp [Builtin.append_, run_underlying Try.underlying22, sizeOf, typeInfo, hi, Builtin.lenOf, Builtin.firstCells, h]
  | some a => simp [Builtin.append_, run_underlying Try.underlying22, sizeOf, typeInfo, hi, Builtin.lenOf, Builtin.firstCells, loadCells, h, storeCells]
/-- append of any list, nil too. -/
theorem bk_append_any {ops : Array Oper} {rest : List Oper} {o : Oper} {a : Act} {Q : Exit → Act → World → Prop} (W w : World) (s x : Operand) (v va : Value) (l m : List Sp) (hgd : o.guard = none)
    (ho : o.op = .call { callee := .builtin .append, args := #[s, x], argTypes := #[22, 22] })
    (hs : a.eval s = v) (hx : a.eval x = va) (hB : Ow W w.heap.size v l) (hR : Ra W va m) (hlen : l.length + m.length ≤ 100000) (hE : Ext w W)
    (h : ∀ v' W', Ow W' w.heap.size v' (l ++ m) → Ext w W' → wpList Try.prog ops Q rest (a.put o.dst v') W') : wpList Try.prog ops Q (o :: rest) a W := by
  obtain ⟨rst, hB⟩ := hB
  rcases hR with hR | ⟨rfl, p, rfl⟩
  rotate_left
  · obtain ⟨i, hi, hz, h1, h2⟩ := info_sp
    refine wpList_append_own_at W hgd s x 22 ho w.heap.size 28 i _ 2 16 Try.underlying22 hi hz h1 h2 rfl (by decide) v l.length (flat l) hs hB.owns p 0 0 [] hx rfl (by simp) (by simp) (by unfold maxLen; simp at hlen; omega) (by simp at hlen; omega) hE.size ?_
    intro v' W' h3 h4 _ _
    exact h v' W' (Ow.of h3 (by simp) (by simp)) (ext_grown hB (Nat.le_refl _) hE h4)
  have hR0 := hR
  rcases hR with ⟨rfl, rfl⟩ | ⟨b, off, c, rfl, _⟩
  · obtain ⟨p, cap, rfl⟩ := hB.rd.form
    have hc : l.length ≤ cap := by
      rcases hB.rd with ⟨h1, rfl⟩ | ⟨_, _, _, h1, h2, _⟩
      · simp
      · simp at h1; omega
    refine Lib.wpList_append_run W hgd s x _ _ ho _ _ hs hx _ _ (run_append_none W o.type p l.length cap hc) ?_
    exact h _ W ⟨rst, by rw [List.append_nil]; exact hB⟩ hE
  · exact bk_append W w s x v b off _ c l m rst hgd ho hs hx hB hR0 hlen hE fun v' rst' W' h1 _ h2 _ => h v' W' ⟨rst', h1⟩ h2

theorem ow_new (w W : World) (h : w.heap.size ≤ W.heap.size) : Ow (W.alloc (.cells #[] 28)) w.heap.size (.slice (some ⟨W.heap.size, 0, none⟩) 0 0) [] :=
  ⟨[], .inr ⟨W.heap.size, 0, #[], rfl, h, heap_alloc_new W _, Nat.zero_le _, rfl, rfl⟩⟩

theorem own_any (w : World) (v : Value) (l : List Sp) (h : Ra w v l) (hl : l.length ≤ 1000) :
    Calls Try.prog 6 #[v] w fun e w' => ∃ v', e = .returned v' ∧ Ow w' w.heap.size v' l ∧ Ext w w' := by
  have HR : Hid (Ra w v l) := h
  have HL : Hid (l.length ≤ 1000) := hl
  clear h hl
  go_enter Try.func6, Try.ntmps6
  go_wp2_with (at_builtin; refine bk_append_any _ w _ _ _ _ [] l rfl rfl (by rfl) (by rfl) (ow_new w w (Nat.le_refl _)) (HR.out.ext ((Ext.refl _).alloc _)) (by have := HL.out; simp; omega) ((Ext.refl _).alloc _) ?_; intro v' W' k1 k2)
  go_wp2
  go_ret
  exact ⟨v', rfl, k1, k2⟩

/-- The first sixty. -/
theorem few_any (w : World) (v : Value) (l : List Sp) (h : Ra w v l) (hl : l.length ≤ 9223372036854775807) :
    Calls Try.prog 4 #[v] w fun e w' => (∃ v', e = .returned v' ∧ Ra w' v' (l.take 60)) ∧ w' = w := by
  have HL : Hid (l.length ≤ 9223372036854775807) := hl
  have HR : Hid (Ra w v l) := h
  rcases h with h | ⟨rfl, p, rfl⟩
  rotate_left
  · go_enter Try.func4, Try.ntmps4
    go_wp2
    go_ret
    exact ⟨⟨_, rfl, HR.out⟩, rfl⟩
  rcases h with ⟨rfl, rfl⟩ | ⟨b, off, c, rfl, h1, h2, h3⟩
  · go_enter Try.func4, Try.ntmps4
    go_wp2
    go_ret
    exact ⟨⟨_, rfl, HR.out⟩, rfl⟩
  · have HC : Hid (l.length ≤ c) := h1
    have HT : Hid (∀ i s, (l.take 60)[i]? = some s → w.cell? ⟨b, off + i * 2, none⟩ = some (.int .i64 s.1) ∧ w.cell? ⟨b, off + i * 2 + 1, none⟩ = some (.int .i64 s.2)) := by
      intro i s hs
      rw [List.getElem?_take] at hs
      split at hs
      · exact h3 i s hs
      · cases hs
    have HB : Hid (b < w.heap.size) := h2
    clear hl h1 h2 h3
    go_enter Try.func4, Try.ntmps4
    rcases Nat.lt_or_ge 60 l.length with hlt | hge
    · have hI : (60 : Int) < (l.length : Int) := by omega
      have hc : 60 ≤ c := by have := HC.out; omega
      have hcI : (60 : Int) ≤ (c : Int) := by omega
      go_wp2
      go_ret
      have e : (l.take 60).length = 60 := by simp; omega
      refine ⟨⟨_, rfl, .inl <| .inr ⟨b, off, c, by rw [e]; rfl, by omega, HB.out, HT.out⟩⟩, rfl⟩
    · have hI : ¬ (60 : Int) < (l.length : Int) := by omega
      go_wp2
      go_ret
      exact ⟨⟨_, rfl, by rw [List.take_of_length_le hge]; exact HR.out⟩, rfl⟩

end Go.Proofs.Ytgphjbkadjagpaa
