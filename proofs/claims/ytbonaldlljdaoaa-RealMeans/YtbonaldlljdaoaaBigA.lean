/-
  Numbers of any size as the document has them: slices of bits, in a world; append.
-/
import Derived.Test.YtbonaldlljdaoaaBigN
import Derived.Test.YtbonaldlljdaoaaRealN
import Derived.Test.YtbonaldlljdaoaaFixI
import Derived.Deep.AppendLies
namespace Go.Proofs.Ytbonaldlljdaoaa
open Go.RowKit
set_option maxHeartbeats 1000000

theorem info_bool : ∃ i, Try.prog.info? 4 = some i ∧ i.zero = some (.bool false) ∧ i.size = 1 ∧ i.bytes = 1 := by
  have h1 : (Try.prog.info? 4).isSome = true := by kernel_rfl
  have h2 : (Try.prog.info? 4).bind (fun i => i.zero) = some (.bool false) := by kernel_rfl
  have h3 : (Try.prog.info? 4).map (fun i => (i.size, i.bytes)) = some (1, 1) := by kernel_rfl
  cases h : Try.prog.info? 4 with
  | none => rw [h] at h1; cases h1
  | some i =>
    rw [h] at h2 h3
    simp at h2 h3
    exact ⟨i, rfl, h2, h3.1, h3.2⟩

/-- v holds the bits l. -/
def Row (w : World) (v : Value) (l : List Bool) : Prop :=
  ∃ b c, v = .slice (some ⟨b, 0, none⟩) l.length c ∧ l.length ≤ c ∧ b < w.heap.size ∧ ∀ i x, l[i]? = some x → w.cell? ⟨b, i, none⟩ = some (.bool x)
theorem Row.ext {w w' : World} {v : Value} {l : List Bool} (h : Row w v l) (e : Ext w w') : Row w' v l := by
  obtain ⟨b, c, rfl, h1, h2, h3⟩ := h
  exact ⟨b, c, rfl, h1, Nat.lt_of_lt_of_le h2 e.size, fun i x hx => (e.cell.1 b i h2).trans (h3 i x hx)⟩
/-- v holds the bits l, in a block that the call made. -/
def Own (w : World) (base : Nat) (v : Value) (l : List Bool) : Prop :=
  (∃ g cap, v = .slice (some ⟨g, 0, none⟩) l.length cap) ∧ w.ownsRow base 4 1 v l.length (l.map Value.bool)
theorem Own.row {w : World} {base : Nat} {v : Value} {l : List Bool} (h : Own w base v l) : Row w v l := by
  obtain ⟨⟨g, cap, rfl⟩, h2⟩ := h
  rcases h2.2 with ⟨h3, _⟩ | ⟨g', cap', cur, h3, h4, h5, h6, _⟩
  · cases h3
  · simp at h3
    obtain ⟨rfl, rfl⟩ := h3
    refine ⟨g, cap, rfl, h6, ?_, ?_⟩
    · rcases Nat.lt_or_ge g w.heap.size with k | k
      · exact k
      · rw [Array.getElem?_eq_none k] at h5; cases h5
    · intro i x hx
      have := h2.cells (g := g) rfl i (.bool x) (by rw [List.getElem?_map, hx]; rfl)
      have ha : (⟨g, 0, none⟩ : Addr).add i = ⟨g, i, none⟩ := by unfold Addr.add; split <;> simp_all
      rwa [ha] at this
theorem Own.alloc {w : World} {base : Nat} {v : Value} {l : List Bool} (h : Own w base v l) (o : Obj) : Own (w.alloc o) base v l := ⟨h.1, h.2.alloc o⟩
theorem Own.drew {w : World} {base : Nat} {v : Value} {l : List Bool} (h : Own w base v l) : Own w.drew base v l := h
theorem Own.ext {w w' : World} {base : Nat} {v : Value} {l : List Bool} (h : Own w base v l) (e : Ext w w') : Own w' base v l := by
  obtain ⟨⟨g, cap, rfl⟩, h1, h2⟩ := h
  refine ⟨⟨g, cap, rfl⟩, h1, ?_⟩
  rcases h2 with ⟨h3, _⟩ | ⟨g', cap', cur, h3, h4, h5, h6⟩
  · cases h3
  · refine .inr ⟨g', cap', cur, h3, h4, ?_, h6⟩
    rw [← h5]
    refine e.block g' ?_
    rcases Nat.lt_or_ge g' w.heap.size with k | k
    · exact k
    · rw [Array.getElem?_eq_none k] at h5; cases h5
theorem own_new (w W : World) (h : w.heap.size ≤ W.heap.size) : Own (W.alloc (.cells #[] 4)) w.heap.size (.slice (some ⟨W.heap.size, 0, none⟩) 0 0) [] :=
  ⟨⟨_, _, rfl⟩, World.ownsRow_made W #[] 0 h (by unfold maxLen; omega) (by simp)⟩
theorem row_one (W : World) (b : Bool) : Row (W.alloc (.cells #[.bool b] 4)) (.slice (some ⟨W.heap.size, 0, none⟩) 1 1) [b] := by
  refine ⟨W.heap.size, 1, rfl, Nat.le_refl _, by simp, ?_⟩
  intro i x hx
  cases i with
  | zero => simp at hx; subst hx; simp [go_sem]
  | succ i => simp at hx
theorem own_one (w W : World) (h : w.heap.size ≤ W.heap.size) (b : Bool) : Own (W.alloc (.cells #[.bool b] 4)) w.heap.size (.slice (some ⟨W.heap.size, 0, none⟩) 1 1) [b] :=
  ⟨⟨_, _, rfl⟩, rfl, .inr ⟨W.heap.size, 1, #[.bool b], rfl, h, heap_alloc_new W _, Nat.le_refl _, by unfold maxLen; omega, rfl, rfl⟩⟩
/-- append, at the operation. -/
theorem own_append {ops : Array Oper} {rest : List Oper} {o : Oper} {a : Act} {Q : Exit → Act → World → Prop} (W w : World) (s x : Operand) (v va : Value) (l m : List Bool) (hgd : o.guard = none)
    (ho : o.op = .call { callee := .builtin .append, args := #[s, x], argTypes := #[52, 52] })
    (hs : a.eval s = v) (hx : a.eval x = va) (hown : Own W w.heap.size v l) (hrow : Row W va m) (hlen : l.length + m.length ≤ 100000) (hE : Ext w W)
    (h : ∀ v' W', Own W' w.heap.size v' (l ++ m) → Ext w W' → wpList Try.prog ops Q rest (a.put o.dst v') W') : wpList Try.prog ops Q (o :: rest) a W := by
  obtain ⟨i, hi, hz, h1, h2⟩ := info_bool
  obtain ⟨b, c, rfl, hc, hb, hcell⟩ := hrow
  obtain ⟨⟨g, cap, rfl⟩, hown⟩ := hown
  refine wpList_append_own_at W hgd s x 52 ho w.heap.size 4 i (.bool false) 1 1 Try.underlying52 hi hz h1 h2 rfl (by decide) _ l.length (l.map Value.bool) hs hown ⟨b, 0, none⟩ m.length c (m.map Value.bool) hx (by simp) ?_ ?_ (by unfold maxLen; omega) (by omega) hE.size ?_
  · intro j u hu
    have ha : (⟨b, 0, none⟩ : Addr).add j = ⟨b, j, none⟩ := by unfold Addr.add; split <;> simp_all
    rw [ha]
    rw [List.getElem?_map] at hu
    cases hm : m[j]? with
    | none => rw [hm] at hu; simp at hu
    | some y => rw [hm] at hu; simp at hu; subst hu; exact hcell j y hm
  · intro u hu
    simp at hu
    rcases hu with ⟨_, rfl⟩ | ⟨_, rfl⟩ <;> rfl
  · intro v' W' h3 h4 h5 h6
    have hbase := (hown.lt g rfl).1
    refine h v' W' ⟨?_, by rw [List.map_append, List.length_append]; exact h3⟩ ?_
    · rw [List.length_append]
      rcases h3.2 with ⟨k1, k2⟩ | ⟨g', cap', cur, k1, _⟩
      · exfalso
        have := (h5.mp k1).1
        cases this
      · exact ⟨g', cap', k1⟩
    · refine ⟨h4.os.trans hE.os, h4.tape.trans hE.tape, h4.output.trans hE.output, Nat.le_trans hE.size h4.size, fun k hk => ?_⟩
      refine (h4.block k (Nat.lt_of_lt_of_le hk hE.size) ?_).trans (hE.block k hk)
      intro e
      simp [Value.ownBlock] at e
      omega

/-- v is the number x. -/
def IsBig (w : World) (v : Value) (x : Nat) : Prop := Row w v (bitsOf x)
theorem IsBig.ext {w w' : World} {v : Value} {x : Nat} (h : IsBig w v x) (e : Ext w w') : IsBig w' v x := Row.ext h e
theorem mod_two (n : Nat) : ((n : Int) % 2 == 1) = (n % 2 == 1) := by
  rw [Bool.eq_iff_iff]; simp; omega
theorem of_any (n : Nat) (hn : n < 18446744073709551616) (w : World) : Calls Try.prog 28 #[.int .u64 n] w fun e w' => (∃ v, e = .returned v ∧ IsBig w' v n) ∧ Ext w w' := by
  have HN : Hid (n < 18446744073709551616) := hn
  have HL : Hid (blen n ≤ 64) := blen_le hn
  clear hn
  go_enter Try.func28, Try.ntmps28
  go_wp2
  go_loopw [0, 3] (fun x v wr => ∃ (k : Nat) (l : List Bool), x = .int .u64 (k : Int) ∧ Own wr w.heap.size v l ∧ Ext w wr ∧ l ++ bitsOf k = bitsOf n ∧ k ≤ n) (fun x _ _ => (intOf x).toNat)
  case atStart => exact ⟨n, [], rfl, own_new w w (Nat.le_refl _), (Ext.refl _).alloc _, rfl, Nat.le_refl _⟩
  case round =>
    obtain ⟨k, l, rfl, hO, hE, hl, hk⟩ := hrel
    rcases Nat.eq_zero_or_pos k with rfl | h0
    · have HB : Hid (IsBig wr u3 n) := by
        show Row wr u3 (bitsOf n)
        rw [← hl, bitsOf_zero, List.append_nil]; exact hO.row
      clear hO hl
      go_wp2
      go_ret
      exact ⟨⟨u3, rfl, HB.out⟩, hE⟩
    · have HL2 : Hid (l.length ≤ 64) := by
        have e1 := congrArg List.length hl
        rw [List.length_append] at e1
        have := HL.out
        unfold blen at this
        show l.length ≤ 64
        omega
      have HT : Hid ((l ++ [k % 2 == 1]) ++ bitsOf (k / 2) = bitsOf n ∧ k / 2 ≤ n ∧ k / 2 < k) := by
        rw [bitsOf_pos h0] at hl
        exact ⟨by rw [List.append_assoc]; exact hl, by omega, by omega⟩
      have HK : Hid (k < 18446744073709551616) := by have := HN.out; show k < 18446744073709551616; omega
      have eb := mod_two k
      have h0I : (0 : Int) < (k : Int) := by omega
      obtain ⟨k2, hk2⟩ : ∃ k2, k2 = k / 2 := ⟨_, rfl⟩
      have ew : IntKind.u64.wrap ((k : Int) / 2) = (k2 : Int) := by have := HK.out; rw [wrapU]; omega
      rw [← hk2] at HT
      clear hk2
      clear hl hk h0
      generalize (k % 2 == 1) = b at *
      go_wp2_with (at_builtin; refine own_append _ w _ _ u3 _ l [b] rfl rfl (by rfl) (by rfl) (hO.alloc _) (row_one _ _) (by have := HL2.out; simp; omega) (hE.alloc _) ?_; intro v' W' hO' hE')
      go_wp2
      go_roundw
      case rel => exact ⟨k2, l ++ [b], rfl, hO', hE', HT.out.1, HT.out.2.1⟩
      case measure => have := HT.out.2.2; simp [intOf]; omega
end Go.Proofs.Ytbonaldlljdaoaa
