/-
  Slices of ints; the document's put and Edges.
-/
import Derived.Test.YtgphjbkadjagpaaSpK
namespace Go.Proofs.Ytgphjbkadjagpaa
open Go.RowKit
set_option maxHeartbeats 2000000

theorem info_int : ∃ i, Try.prog.info? 3 = some i ∧ i.zero = some (.int .i64 0) ∧ i.size = 1 ∧ i.bytes = 8 := by
  have h1 : (Try.prog.info? 3).isSome = true := by kernel_rfl
  have h2 : (Try.prog.info? 3).bind (fun i => i.zero) = some (.int .i64 0) := by kernel_rfl
  have h3 : (Try.prog.info? 3).map (fun i => (i.size, i.bytes)) = some (1, 8) := by kernel_rfl
  cases h : Try.prog.info? 3 with
  | none => rw [h] at h1; cases h1
  | some i =>
    rw [h] at h2 h3
    simp at h2 h3
    exact ⟨i, rfl, h2, h3.1, h3.2⟩

/-- v holds the numbers l. -/
def RdI (w : World) (v : Value) (l : List Int) : Prop :=
  ∃ b c, v = .slice (some ⟨b, 0, none⟩) l.length c ∧ l.length ≤ c ∧ b < w.heap.size ∧ ∀ i x, l[i]? = some x → w.cell? ⟨b, i, none⟩ = some (Value.int .i64 x)
theorem RdI.ext {w w' : World} {v : Value} {l : List Int} (h : RdI w v l) (e : Ext w w') : RdI w' v l := by
  obtain ⟨b, c, rfl, h1, h2, h3⟩ := h
  exact ⟨b, c, rfl, h1, Nat.lt_of_lt_of_le h2 e.size, fun i x hx => (e.cell.1 b i h2).trans (h3 i x hx)⟩
/-- v holds the numbers l, in a block that the call made. -/
def OwI (w : World) (base : Nat) (v : Value) (l : List Int) : Prop :=
  (∃ g cap, v = .slice (some ⟨g, 0, none⟩) l.length cap) ∧ w.ownsRow base 3 1 v l.length (l.map (Value.int .i64))
theorem OwI.row {w : World} {base : Nat} {v : Value} {l : List Int} (h : OwI w base v l) : RdI w v l := by
  obtain ⟨⟨g, cap, rfl⟩, h2⟩ := h
  rcases h2.2 with ⟨h3, _⟩ | ⟨g', cap', cur, h3, h4, h5, h6, _⟩
  · cases h3
  · simp at h3
    obtain ⟨rfl, rfl⟩ := h3
    refine ⟨g, cap, rfl, h6, ?_, ?_⟩
    · rcases Nat.lt_or_ge g w.heap.size with k | k
      · exact k
      · rw [Array.getElem?_eq_none k] at h5; cases h5
    · intro i x hx
      have := h2.cells (g := g) rfl i (Value.int .i64 x) (by rw [List.getElem?_map, hx]; rfl)
      have ha : (⟨g, 0, none⟩ : Addr).add i = ⟨g, i, none⟩ := by unfold Addr.add; split <;> simp_all
      rwa [ha] at this
theorem OwI.alloc {w : World} {base : Nat} {v : Value} {l : List Int} (h : OwI w base v l) (o : Obj) : OwI (w.alloc o) base v l := ⟨h.1, h.2.alloc o⟩
theorem OwI.drew {w : World} {base : Nat} {v : Value} {l : List Int} (h : OwI w base v l) : OwI w.drew base v l := h
theorem OwI.ext {w w' : World} {base : Nat} {v : Value} {l : List Int} (h : OwI w base v l) (e : Ext w w') : OwI w' base v l := by
  obtain ⟨⟨g, cap, rfl⟩, h1, h2⟩ := h
  refine ⟨⟨g, cap, rfl⟩, h1, ?_⟩
  rcases h2 with ⟨h3, _⟩ | ⟨g', cap', cur, h3, h4, h5, h6⟩
  · cases h3
  · refine .inr ⟨g', cap', cur, h3, h4, ?_, h6⟩
    rw [← h5]
    refine e.block g' ?_
    rcases Nat.lt_or_ge g' w.heap.size with k | k
    · exact k
    · rw [Array.getElem?_eq_none k] at h5; cases h5
theorem owI_new (w W : World) (h : w.heap.size ≤ W.heap.size) : OwI (W.alloc (.cells #[] 3)) w.heap.size (.slice (some ⟨W.heap.size, 0, none⟩) 0 0) [] :=
  ⟨⟨_, _, rfl⟩, World.ownsRow_made W #[] 0 h (by unfold maxLen; omega) (by simp)⟩
theorem rdI_one (W : World) (b : Int) : RdI (W.alloc (.cells #[.int .i64 b] 3)) (.slice (some ⟨W.heap.size, 0, none⟩) 1 1) [b] := by
  refine ⟨W.heap.size, 1, rfl, Nat.le_refl _, by simp, ?_⟩
  intro i x hx
  cases i with
  | zero => simp at hx; subst hx; simp [go_sem]
  | succ i => simp at hx
theorem owI_one (w W : World) (h : w.heap.size ≤ W.heap.size) (b : Int) : OwI (W.alloc (.cells #[.int .i64 b] 3)) w.heap.size (.slice (some ⟨W.heap.size, 0, none⟩) 1 1) [b] :=
  ⟨⟨_, _, rfl⟩, rfl, .inr ⟨W.heap.size, 1, #[.int .i64 b], rfl, h, heap_alloc_new W _, Nat.le_refl _, by unfold maxLen; omega, rfl, rfl⟩⟩
/-- append, at the operation. -/
theorem owI_append {ops : Array Oper} {rest : List Oper} {o : Oper} {a : Act} {Q : Exit → Act → World → Prop} (W w : World) (s x : Operand) (v va : Value) (l m : List Int) (hgd : o.guard = none)
    (ho : o.op = .call { callee := .builtin .append, args := #[s, x], argTypes := #[34, 34] })
    (hs : a.eval s = v) (hx : a.eval x = va) (hown : OwI W w.heap.size v l) (hrow : RdI W va m) (hlen : l.length + m.length ≤ 100000) (hE : Ext w W)
    (h : ∀ v' W', OwI W' w.heap.size v' (l ++ m) → Ext w W' → wpList Try.prog ops Q rest (a.put o.dst v') W') : wpList Try.prog ops Q (o :: rest) a W := by
  obtain ⟨i, hi, hz, h1, h2⟩ := info_int
  obtain ⟨b, c, rfl, hc, hb, hcell⟩ := hrow
  obtain ⟨⟨g, cap, rfl⟩, hown⟩ := hown
  refine wpList_append_own_at W hgd s x 34 ho w.heap.size 3 i (.int .i64 0) 1 8 Try.underlying34 hi hz h1 h2 rfl (by decide) _ l.length (l.map (Value.int .i64)) hs hown ⟨b, 0, none⟩ m.length c (m.map (Value.int .i64)) hx (by simp) ?_ ?_ (by unfold maxLen; omega) (by omega) hE.size ?_
  · intro j u hu
    have ha : (⟨b, 0, none⟩ : Addr).add j = ⟨b, j, none⟩ := by unfold Addr.add; split <;> simp_all
    rw [ha]
    rw [List.getElem?_map] at hu
    cases hm : m[j]? with
    | none => rw [hm] at hu; simp at hu
    | some y => rw [hm] at hu; simp at hu; subst hu; exact hcell j y hm
  · intro u hu
    simp at hu
    obtain ⟨_, _, rfl⟩ := hu
    rfl
  · intro v' W' h3 h4 h5 h6
    have hbase := (hown.lt g rfl).1
    refine h v' W' ⟨?_, by rw [List.map_append, List.length_append]; exact h3⟩ ?_
    · rw [List.length_append]
      rcases h3.2 with ⟨k1, k2⟩ | ⟨g', cap', cur, k1, _⟩
      · exfalso
        have := (h5.mp k1).1
        cases this
      · exact ⟨g', cap', k1⟩
    · refine ⟨h4.os.trans hE.os, h4.tape.trans hE.tape, h4.output.trans hE.output, Nat.le_trans hE.size h4.size, fun k hk => ?_⟩
      refine (h4.block k (Nat.lt_of_lt_of_le hk hE.size) ?_).trans (hE.block k hk)
      intro e
      simp [Value.ownBlock] at e
      omega


def Up (l : List Int) : Prop := l.Pairwise (fun x y => x < y)
/-- What put leaves: the numbers and n, rising. -/
def PutQ (w : World) (l : List Int) (n : Int) (e : Ending) (w' : World) : Prop :=
  ∃ v r, e = .returned v ∧ RdI w' v r ∧ Up r ∧ (∀ x, x ∈ r ↔ x ∈ l ∨ x = n) ∧ r.length ≤ l.length + 1 ∧ Ext w w'
/-- The rounds of put. -/
def PutP (l : List Int) (n : Int) (k : Nat) (o : List Int) : Bool → Prop
  | false => o = l.take k ∧ ∀ x ∈ l.take k, x < n
  | true => ∃ p q, o = p ++ n :: q ∧ p ++ q = l.take k ∧ q ≠ [] ∧ (∀ x ∈ p, x < n) ∧ ∀ x ∈ q, n < x
theorem takeI_snoc {l : List Int} {k : Nat} {s : Int} (h : l[k]? = some s) : l.take (k + 1) = l.take k ++ [s] := by
  rw [List.take_add_one, h]; rfl
theorem up_last {l : List Int} (h : Up l) {k : Nat} {y : Int} (hy : l[k]? = some y) : ∀ x ∈ l.take k, x < y := by
  have h2 : Up (l.take (k + 1)) := h.sublist (List.take_sublist _ _)
  unfold Up at h2
  rw [takeI_snoc hy, List.pairwise_append] at h2
  exact fun x hx => h2.2.2 x hx y (by simp)
theorem PutP.next {l : List Int} {n : Int} {k : Nat} {o : List Int} {b : Bool} {y : Int} (h : PutP l n k o b) (hl : Up l) (hy : l[k]? = some y) :
    (b = true → n < y ∧ PutP l n (k + 1) (o ++ [y]) true) ∧ (b = false → (y < n → PutP l n (k + 1) (o ++ [y]) false) ∧ (n < y → PutP l n (k + 1) ((o ++ [n]) ++ [y]) true)) := by
  have hup := up_last hl hy
  cases b with
  | true =>
    obtain ⟨p, q, rfl, h2, h3, h4, h5⟩ := h
    have hny : n < y := by
      cases q with
      | nil => exact absurd rfl h3
      | cons x q =>
        have := h5 x (by simp)
        have := hup x (by rw [← h2]; simp)
        omega
    refine ⟨fun _ => ⟨hny, p, q ++ [y], by simp, by rw [takeI_snoc hy, ← h2]; simp, by simp, h4, fun x hx => ?_⟩, fun e => by cases e⟩
    rcases List.mem_append.mp hx with hx | hx
    · exact h5 x hx
    · simp at hx; omega
  | false =>
    obtain ⟨rfl, h2⟩ := h
    refine ⟨fun e => (by cases e), fun _ => ⟨fun hlt => ⟨by rw [takeI_snoc hy], fun x hx => ?_⟩, fun hgt => ⟨l.take k, [y], by simp, by rw [takeI_snoc hy], by simp, h2, fun x hx => ?_⟩⟩⟩
    · rw [takeI_snoc hy] at hx
      rcases List.mem_append.mp hx with hx | hx
      · exact h2 x hx
      · simp at hx; omega
    · simp at hx; omega
theorem PutP.len {l : List Int} {n : Int} {k : Nat} {o : List Int} {b : Bool} (h : PutP l n k o b) : o.length ≤ l.length + 1 := by
  cases b with
  | false => obtain ⟨rfl, _⟩ := h; simp; omega
  | true =>
    obtain ⟨p, q, rfl, h2, _⟩ := h
    have := congrArg List.length h2
    simp at this ⊢
    omega
theorem PutP.done {l : List Int} {n : Int} {k : Nat} {o : List Int} {b : Bool} (h : PutP l n k o b) (hl : Up l) (hk : l.length ≤ k) :
    (b = true → Up o ∧ ∀ x, x ∈ o ↔ x ∈ l ∨ x = n) ∧ (b = false → Up (o ++ [n]) ∧ ∀ x, x ∈ o ++ [n] ↔ x ∈ l ∨ x = n) := by
  cases b with
  | false =>
    obtain ⟨rfl, h2⟩ := h
    rw [List.take_of_length_le hk] at h2 ⊢
    refine ⟨fun e => (by cases e), fun _ => ⟨?_, fun x => by simp⟩⟩
    unfold Up
    rw [List.pairwise_append]
    exact ⟨hl, by simp, fun a ha b hb => by simp at hb; subst hb; exact h2 a ha⟩
  | true =>
    obtain ⟨p, q, rfl, h2, h3, h4, h5⟩ := h
    rw [List.take_of_length_le hk] at h2
    subst h2
    refine ⟨fun _ => ⟨?_, fun x => ?_⟩, fun e => by cases e⟩
    · unfold Up at hl ⊢
      rw [List.pairwise_append] at hl ⊢
      refine ⟨hl.1, ?_, fun a ha b hb => ?_⟩
      · rw [List.pairwise_cons]; exact ⟨h5, hl.2.1⟩
      · rcases List.mem_cons.mp hb with rfl | hb
        · exact h4 a ha
        · exact hl.2.2 a ha b hb
    · simp only [List.mem_append, List.mem_cons]
      constructor
      · rintro (h | h | h)
        · exact .inl (.inl h)
        · exact .inr h
        · exact .inl (.inr h)
      · rintro ((h | h) | h)
        · exact .inl h
        · exact .inr (.inr h)
        · exact .inr (.inl h)

set_option maxRecDepth 100000 in
theorem put_any (w : World) (v : Value) (l : List Int) (n : Int) (h : RdI w v l) (hl : l.length ≤ 10000) (hU : Up l) : Calls Try.prog 22 #[v, .int .i64 n] w (PutQ w l n) := by
  have HR : Hid (RdI w v l) := h
  have HL : Hid (l.length ≤ 10000) := hl
  have HU : Hid (Up l) := hU
  obtain ⟨vb, vc, rfl, _, hb, hc⟩ := h
  have HC : Hid (∀ W, Ext w W → ∀ i x, l[i]? = some x → W.cell? ⟨vb, i, none⟩ = some (.int .i64 x)) := fun W e i x hx => (e.cell.1 vb i hb).trans (hc i x hx)
  clear hl hU hc hb
  go_enter Try.func22, Try.ntmps22
  go_wp2
  go_loopw [7, 5, 6] (fun x uo ub wr => ∃ (k : Nat) (o : List Int) (b : Bool), x = .int .i64 (k : Int) ∧ k ≤ l.length ∧ ub = .bool b ∧ OwI wr w.heap.size uo o ∧ PutP l n k o b ∧ Ext w wr) (fun x _ _ _ => l.length - (intOf x).toNat)
  case atStart => exact ⟨0, [], false, rfl, Nat.zero_le _, rfl, owI_new w w (Nat.le_refl _), ⟨rfl, by simp⟩, (Ext.refl _).alloc _⟩
  case round =>
    obtain ⟨k, o, b, rfl, hk, rfl, hO, hP, hE⟩ := hrel
    have HO : Hid (OwI wr w.heap.size u5 o ∧ PutP l n k o b ∧ Ext w wr) := ⟨hO, hP, hE⟩
    clear hO hP hE
    rcases Nat.lt_or_ge k l.length with hlt | hge
    · have hltI : (k : Int) < (l.length : Int) := by omega
      obtain ⟨y, hy⟩ : ∃ y, l[k]? = some y := ⟨_, List.getElem?_eq_getElem hlt⟩
      have c1 := HC.out _ HO.out.2.2 k y hy
      have HY : Hid (l[k]? = some y) := hy
      have wk := wrap_succ k (by have := HL.out; omega)
      have HN : Hid (o.length ≤ l.length + 1) := HO.out.2.1.len
      clear hy
      by_cases hyn : y = n
      · have e1 : (y == n) = true := by simp [hyn]
        have HQ : Hid (PutQ w l n (.returned (.slice (some ⟨vb, 0, none⟩) l.length vc)) wr) :=
          ⟨_, l, rfl, HR.out.ext HO.out.2.2, HU.out, fun x => ⟨.inl, fun h => h.elim id fun h => by rw [h, ← hyn]; exact List.mem_of_getElem? HY.out⟩, by omega, HO.out.2.2⟩
        clear hyn
        go_wp2
        go_ret
        exact HQ.out
      · have e1 : (y == n) = false := by simp [hyn]
        obtain ⟨q1, q2⟩ := HO.out.2.1.next HU.out HY.out
        cases b with
        | true =>
          obtain ⟨hny, hP'⟩ := q1 rfl
          have HP' : Hid (PutP l n (k + 1) (o ++ [y]) true) := hP'
          clear hP' q1 q2 hyn
          go_wp2_with (at_builtin; refine owI_append _ w _ _ u5 _ o [y] rfl rfl (by rfl) (by rfl) (HO.out.1.alloc _) (rdI_one _ _) (by have := HN.out; have := HL.out; simp; omega) (HO.out.2.2.alloc _) ?_; intro v' W' k1 k2)
          go_wp2
          go_roundw
          case rel => exact ⟨k + 1, _, true, by rw [wk], hlt, rfl, k1, HP'.out, k2⟩
          case measure => rw [wk]; simp [intOf]; omega
        | false =>
          obtain ⟨q3, q4⟩ := q2 rfl
          by_cases hgt : n < y
          · have HP' : Hid (PutP l n (k + 1) ((o ++ [n]) ++ [y]) true) := q4 hgt
            clear q1 q2 q3 q4 hyn
            go_wp2_with (first | (at_builtin; refine owI_append _ w _ _ u5 _ o [n] rfl rfl (by rfl) (by rfl) (HO.out.1.alloc _) (rdI_one _ _) (by have := HN.out; have := HL.out; simp; omega) (HO.out.2.2.alloc _) ?_; intro v' W' k1 k2; have HK : Hid (OwI W' w.heap.size v' (o ++ [n]) ∧ Ext w W') := ⟨k1, k2⟩; have c2 := HC.out _ k2 k y HY.out; clear k1 k2) | (at_builtin; refine owI_append _ w _ _ v' _ (o ++ [n]) [y] rfl rfl (by rfl) (by rfl) (HK.out.1.alloc _) (rdI_one _ _) (by have := HN.out; have := HL.out; simp; omega) (HK.out.2.alloc _) ?_; intro v2 W2 k3 k4))
            go_wp2
            go_roundw
            case rel => exact ⟨k + 1, _, true, by rw [wk], hlt, rfl, k3, HP'.out, k4⟩
            case measure => rw [wk]; simp [intOf]; omega
          · have HP' : Hid (PutP l n (k + 1) (o ++ [y]) false) := q3 (by omega)
            clear q1 q2 q3 q4 hyn
            go_wp2_with (at_builtin; refine owI_append _ w _ _ u5 _ o [y] rfl rfl (by rfl) (by rfl) (HO.out.1.alloc _) (rdI_one _ _) (by have := HN.out; have := HL.out; simp; omega) (HO.out.2.2.alloc _) ?_; intro v' W' k1 k2)
            go_wp2
            go_roundw
            case rel => exact ⟨k + 1, _, false, by rw [wk], hlt, rfl, k1, HP'.out, k2⟩
            case measure => rw [wk]; simp [intOf]; omega
    · have hltI : ¬ (k : Int) < (l.length : Int) := by omega
      obtain ⟨q1, q2⟩ := HO.out.2.1.done HU.out hge
      have HN : Hid (o.length ≤ l.length + 1) := HO.out.2.1.len
      cases b with
      | true =>
        obtain ⟨r1, r2⟩ := q1 rfl
        have HQ : Hid (PutQ w l n (.returned u5) wr) := ⟨u5, o, rfl, HO.out.1.row, r1, r2, HN.out, HO.out.2.2⟩
        clear q1 q2 r1 r2
        go_wp2
        go_ret
        exact HQ.out
      | false =>
        obtain ⟨r1, r2⟩ := q2 rfl
        have HS : Hid (Up (o ++ [n]) ∧ (∀ x, x ∈ o ++ [n] ↔ x ∈ l ∨ x = n) ∧ (o ++ [n]).length ≤ l.length + 1) := ⟨r1, r2, by
          obtain ⟨h1, _⟩ := HO.out.2.1
          rw [h1]; simp; omega⟩
        clear q1 q2 r1 r2
        go_wp2_with (at_builtin; refine owI_append _ w _ _ u5 _ o [n] rfl rfl (by rfl) (by rfl) (HO.out.1.alloc _) (rdI_one _ _) (by have := HN.out; have := HL.out; simp; omega) (HO.out.2.2.alloc _) ?_; intro v' W' k1 k2)
        have HQ : Hid (PutQ w l n (.returned v') W') := ⟨v', _, rfl, k1.row, HS.out.1, HS.out.2.1, HS.out.2.2, k2⟩
        clear k1 k2
        go_wp2
        go_ret
        exact HQ.out
end Go.Proofs.Ytgphjbkadjagpaa
