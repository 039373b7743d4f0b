/-
  Lists of spans put together: own and few of the law, slices.Grow and slices.Concat, package span's Union.
-/
import Derived.Test.YtplidbcifljfoaaSpE
import Derived.Lib.AppendZeros
namespace Go.Proofs.Ytplidbcifljfoaa
open Go.RowKit
set_option maxHeartbeats 1000000

theorem run_append_none (w : World) (ty : TypeId) (p : Option Addr) (n cap : Nat) (h : n ≤ cap) :
    (Builtin.append_ #[22, 22] ty #[.slice p n cap, .slice none 0 0]).run Try.prog w = .ok (.slice p n cap) w := by
  obtain ⟨i, hi, hz, h1, h2⟩ := info_sp
  cases p with
  | none => simp [Builtin.append_, run_underlying Try.underlying22, sizeOf, typeInfo, hi, Builtin.lenOf, Builtin.firstCells, h]
  | some a => simp [Builtin.append_, run_underlying Try.underlying22, sizeOf, typeInfo, hi, Builtin.lenOf, Builtin.firstCells, loadCells, h, storeCells]
/-- append of any list, nil too. -/
theorem bk_append_any {ops : Array Oper} {rest : List Oper} {o : Oper} {a : Act} {Q : Exit → Act → World → Prop} (W w : World) (s x : Operand) (v va : Value) (l m : List Sp) (hgd : o.guard = none)
    (ho : o.op = .call { callee := .builtin .append, args := #[s, x], argTypes := #[22, 22] })
    (hs : a.eval s = v) (hx : a.eval x = va) (hB : Ow W w.heap.size v l) (hR : Ra W va m) (hlen : l.length + m.length ≤ 100000) (hE : Ext w W)
    (h : ∀ v' W', Ow W' w.heap.size v' (l ++ m) → Ext w W' → wpList Try.prog ops Q rest (a.put o.dst v') W') : wpList Try.prog ops Q (o :: rest) a W := by
  obtain ⟨rst, hB⟩ := hB
  rcases hR with hR | ⟨rfl, p, rfl⟩
  rotate_left
  · obtain ⟨i, hi, hz, h1, h2⟩ := info_sp
    refine wpList_append_own_at W hgd s x 22 ho w.heap.size 32 i _ 2 16 Try.underlying22 hi hz h1 h2 rfl (by decide) v l.length (flat l) hs hB.owns p 0 0 [] hx rfl (by simp) (by simp) (by unfold maxLen; simp at hlen; omega) (by simp at hlen; omega) hE.size ?_
    intro v' W' h3 h4 _ _
    exact h v' W' (Ow.of h3 (by simp) (by simp)) (ext_grown hB (Nat.le_refl _) hE h4)
  have hR0 := hR
  rcases hR with ⟨rfl, rfl⟩ | ⟨b, off, c, rfl, _⟩
  · obtain ⟨p, cap, rfl⟩ := hB.rd.form
    have hc : l.length ≤ cap := by
      rcases hB.rd with ⟨h1, rfl⟩ | ⟨_, _, _, h1, h2, _⟩
      · simp
      · simp at h1; omega
    refine Lib.wpList_append_run W hgd s x _ _ ho _ _ hs hx _ _ (run_append_none W o.type p l.length cap hc) ?_
    exact h _ W ⟨rst, by rw [List.append_nil]; exact hB⟩ hE
  · exact bk_append W w s x v b off _ c l m rst hgd ho hs hx hB hR0 hlen hE fun v' rst' W' h1 _ h2 _ => h v' W' ⟨rst', h1⟩ h2

theorem ow_new (w W : World) (h : w.heap.size ≤ W.heap.size) : Ow (W.alloc (.cells #[] 32)) w.heap.size (.slice (some ⟨W.heap.size, 0, none⟩) 0 0) [] :=
  ⟨[], .inr ⟨W.heap.size, 0, #[], rfl, h, heap_alloc_new W _, Nat.zero_le _, rfl, rfl⟩⟩

theorem own_any (w : World) (v : Value) (l : List Sp) (h : Ra w v l) (hl : l.length ≤ 1000) :
    Calls Try.prog 12 #[v] w fun e w' => ∃ v', e = .returned v' ∧ Ow w' w.heap.size v' l ∧ Ext w w' := by
  have HR : Hid (Ra w v l) := h
  have HL : Hid (l.length ≤ 1000) := hl
  clear h hl
  go_enter Try.func12, Try.ntmps12
  go_wp2_with (at_builtin; refine bk_append_any _ w _ _ _ _ [] l rfl rfl (by rfl) (by rfl) (ow_new w w (Nat.le_refl _)) (HR.out.ext ((Ext.refl _).alloc _)) (by have := HL.out; simp; omega) ((Ext.refl _).alloc _) ?_; intro v' W' k1 k2)
  go_wp2
  go_ret
  exact ⟨v', rfl, k1, k2⟩

/-- The first sixty. -/
theorem few_any (w : World) (v : Value) (l : List Sp) (h : Ra w v l) (hl : l.length ≤ 9223372036854775807) :
    Calls Try.prog 9 #[v] w fun e w' => (∃ v', e = .returned v' ∧ Ra w' v' (l.take 60)) ∧ w' = w := by
  have HL : Hid (l.length ≤ 9223372036854775807) := hl
  have HR : Hid (Ra w v l) := h
  rcases h with h | ⟨rfl, p, rfl⟩
  rotate_left
  · go_enter Try.func9, Try.ntmps9
    go_wp2
    go_ret
    exact ⟨⟨_, rfl, HR.out⟩, rfl⟩
  rcases h with ⟨rfl, rfl⟩ | ⟨b, off, c, rfl, h1, h2, h3⟩
  · go_enter Try.func9, Try.ntmps9
    go_wp2
    go_ret
    exact ⟨⟨_, rfl, HR.out⟩, rfl⟩
  · have HC : Hid (l.length ≤ c) := h1
    have HT : Hid (∀ i s, (l.take 60)[i]? = some s → w.cell? ⟨b, off + i * 2, none⟩ = some (.int .i64 s.1) ∧ w.cell? ⟨b, off + i * 2 + 1, none⟩ = some (.int .i64 s.2)) := by
      intro i s hs
      rw [List.getElem?_take] at hs
      split at hs
      · exact h3 i s hs
      · cases hs
    have HB : Hid (b < w.heap.size) := h2
    clear hl h1 h2 h3
    go_enter Try.func9, Try.ntmps9
    rcases Nat.lt_or_ge 60 l.length with hlt | hge
    · have hI : (60 : Int) < (l.length : Int) := by omega
      have hc : 60 ≤ c := by have := HC.out; omega
      have hcI : (60 : Int) ≤ (c : Int) := by omega
      go_wp2
      go_ret
      have e : (l.take 60).length = 60 := by simp; omega
      refine ⟨⟨_, rfl, .inl <| .inr ⟨b, off, c, by rw [e]; rfl, by omega, HB.out, HT.out⟩⟩, rfl⟩
    · have hI : ¬ (60 : Int) < (l.length : Int) := by omega
      go_wp2
      go_ret
      exact ⟨⟨_, rfl, by rw [List.take_of_length_le hge]; exact HR.out⟩, rfl⟩

theorem grow_any (w : World) (n : Nat) (hn : n ≤ 100000) :
    Calls Try.prog 44 #[.slice none 0 0, .int .i64 (n : Int)] w fun e w' => ∃ v', e = .returned v' ∧ Ow w' w.heap.size v' [] ∧ Ext w w' := by
  have HN : Hid (n ≤ 100000) := hn
  have w1 : wrap64 ((n : Int) - 0) = n := by unfold wrap64; omega
  have w2 : wrap64 (n : Int) = n := by unfold wrap64; omega
  have w3 : wrap64 0 = 0 := by unfold wrap64; omega
  have n0 : ¬ (n : Int) < 0 := by omega
  rcases Nat.eq_zero_or_pos n with rfl | hpos
  · clear w1 w2 hn n0
    go_enter Try.func44, Try.ntmps44
    go_wp2
    go_ret
    exact ⟨_, rfl, ⟨[], .inl ⟨rfl, rfl, rfl⟩⟩, Ext.refl _⟩
  · have hI : (0 : Int) < (n : Int) := by omega
    obtain ⟨i, hi, hz, hs, hb⟩ := info_sp
    have happ := Lib.run_append_nil_zeros (P := Try.prog) w 22 3 22 32 i _ .i64 .i64 Try.underlying22 Try.underlying3 hi hz n hpos (by omega) (by omega) (by rw [hb]; omega)
    generalize hcap : grownCap w n 0 32 = cap2 at happ
    have hge : n ≤ cap2 := by rw [← hcap]; exact grownCap_ge w _ 0 32
    have hle : cap2 ≤ maxLen := by rw [← hcap]; exact grownCap_le_maxLen w _ 0 32 (by unfold maxLen; omega)
    generalize hZ : (Builtin.zeroCells (Value.agg #[.int .i64 0, .int .i64 0]).cells n ++ Builtin.zeroCells (Value.agg #[.int .i64 0, .int .i64 0]).cells (cap2 - n)) = Z at happ
    have hZs : Z.size = cap2 * 2 := by rw [← hZ]; simp [size_zeroCells, Value.cells]; omega
    have HZ : Hid (Z.size = cap2 * 2) := hZs
    have HC : Hid (cap2 ≤ maxLen) := hle
    have hgeI : (0 : Int) ≤ (cap2 : Int) := by omega
    have happ2 : (Builtin.append_ #[22, 3] 22 #[.slice none 0 0, .int .i64 (wrap64 (n : Int))]).run Try.prog w = .ok (.slice (some ⟨w.heap.size, 0, none⟩) n cap2) (w.drew.alloc (.cells Z 32)) := by rw [w2]; exact happ
    clear hcap hZ hZs hle hi hz hs hb hn happ
    go_enter Try.func44, Try.ntmps44
    go_wp2_with (at_builtin; refine Lib.wpList_append_run _ rfl _ _ _ _ rfl _ _ rfl rfl _ _ happ2 ?_)
    go_wp2
    go_ret
    refine ⟨_, rfl, ⟨Z.toList, .inr ⟨w.heap.size, cap2, Z, rfl, Nat.le_refl _, ?_, HC.out, HZ.out, rfl⟩⟩, ?_⟩
    · exact heap_alloc_new w _
    · exact ((Ext.refl w).drew).alloc _
end Go.Proofs.Ytplidbcifljfoaa
