/-
 A region that draws its order, and whose last operations (the bar: stores) wait for all that reads: what reads may be taken first as long as S holds, and S need not hold behind the bar. No program in sight.
 The moves of a bar where more than one operation may come up. No program in sight.
 A bar's list of what has come up, in another spelling. No program in sight.
-/
import Derived.Deep.RegionHeld3
namespace Go.Proofs.YtalejeknigbhjaaGreatDoor
open Go

section
variable {P : Program} {ops : Array Oper} {Q : Exit → Act → World → Prop} {md : Region.Mode} {B : Nat → Bool} {S : World → Prop}

/-- Whichever order is picked from here on; S holds behind each operation that is not of the bar. -/
def wpBar (P : Program) (md : Region.Mode) (ops : Array Oper) (Q : Exit → Act → World → Prop) (B : Nat → Bool) (S : World → Prop) : Nat → Array Bool → Act → World → Prop
 | 0, l, a, w => Region.ready md ops l = [] ∧ Q .normal a w
 | n + 1, l, a, w => (Region.ready md ops l = [] → Q .normal a w) ∧ ∀ i ∈ Region.ready md ops l, wpOp P ops Q i (fun x v => (B i = false → S v) ∧ wpBar P md ops Q B S n (l.setIfInBounds i true) x v) a w
theorem any_of_bar : ∀ (n : Nat) (l : Array Bool) (a : Act) (w : World), wpBar P md ops Q B S n l a w → wpAny P md ops Q n l a w
 | 0, _, _, _, h => h
 | n + 1, _, _, _, h => ⟨h.1, fun i hi => wpOp_mono (fun x v k => any_of_bar n _ x v k.2) (h.2 i hi)⟩
/-- The bar waits for operation i, by itself or by one that has not come up and waits for i. -/
def Waits (md : Region.Mode) (ops : Array Oper) (B : Nat → Bool) (i : Nat) (l : Array Bool) : Prop :=
 ∀ j o, ops[j]? = some o → B j = true → ∃ e ∈ o.after, Region.binds md e = true ∧ (e.on = i ∨ (l.getD e.on true = false ∧ ∃ k, ops[e.on]? = some k ∧ ∃ e' ∈ k.after, Region.binds md e' = true ∧ e'.on = i))
def waitsB (md : Region.Mode) (ops : Array Oper) (B : Nat → Bool) (i : Nat) (l : Array Bool) : Bool :=
 (List.range ops.size).all fun j => !B j || (match ops[j]? with
   | none => true
   | some o => o.after.any fun e => Region.binds md e && (e.on == i || (!l.getD e.on true && (match ops[e.on]? with
     | none => false
     | some k => k.after.any fun e' => Region.binds md e' && e'.on == i))))
theorem waits_of {i : Nat} {l : Array Bool} (h : waitsB md ops B i l = true) : Waits md ops B i l := by
 intro j o ho hb
 have hj : j < ops.size := by
   rcases Nat.lt_or_ge j ops.size with h' | h'
   · exact h'
   · rw [Array.getElem?_eq_none h'] at ho; cases ho
 have h1 := List.all_eq_true.1 h j (List.mem_range.2 hj)
 rw [hb, ho] at h1
 simp only [Bool.not_true, Bool.false_or] at h1
 obtain ⟨e, he, h2⟩ := Array.any_eq_true'.1 h1
 simp only [Bool.and_eq_true, Bool.or_eq_true, beq_iff_eq, Bool.not_eq_true'] at h2
 refine ⟨e, he, h2.1, ?_⟩
 rcases h2.2 with h3 | ⟨h3, h4⟩
 · exact .inl h3
 · cases hk : ops[e.on]? with
   | none => rw [hk] at h4; cases h4
   | some k =>
     rw [hk] at h4
     obtain ⟨e', he', h5⟩ := Array.any_eq_true'.1 h4
     simp only [Bool.and_eq_true, beq_iff_eq] at h5
     exact .inr ⟨h3, k, rfl, e', he', h5.1, h5.2⟩
theorem lst {l : Array Bool} {k : Nat} (h : l.getD k false = true) : ¬ l.getD k true = false := by
 rcases Nat.lt_or_ge k l.size with h' | h'
 · simp [h'] at h ⊢; exact h
 · simp [Array.getElem?_eq_none h'] at h
/-- What is ready beside i is not of the bar; and the bar waits for i still when it has come up. -/
theorem bar_no {i j : Nat} {l : Array Bool} (hW : Waits md ops B i l) (hi : i ∈ Region.ready md ops l) (hj : j ∈ Region.ready md ops l) : B j = false := by
 obtain ⟨_, o, ho, hall⟩ := mem_ready.1 hj
 have hu := (mem_ready.1 hi).1
 cases hb : B j
 · rfl
 · obtain ⟨e, he, hbe, h | ⟨h, _⟩⟩ := hW j o ho hb
   · exact absurd hu (lst (by rw [← h]; exact hall e he hbe))
   · exact absurd h (lst (hall e he hbe))
theorem Waits.step {i j : Nat} {l : Array Bool} (hW : Waits md ops B i l) (hi : i ∈ Region.ready md ops l) (hj : j ∈ Region.ready md ops l) : Waits md ops B i (l.setIfInBounds j true) := by
 intro k o ho hb
 obtain ⟨_, oj, hoj, hall⟩ := mem_ready.1 hj
 have hu := (mem_ready.1 hi).1
 obtain ⟨e, he, hbe, h | ⟨h, m, hm, e', he', hb', h'⟩⟩ := hW k o ho hb
 · exact ⟨e, he, hbe, .inl h⟩
 · refine ⟨e, he, hbe, .inr ⟨?_, m, hm, e', he', hb', h'⟩⟩
   have hne : j ≠ e.on := by
     intro hje
     rw [← hje, hoj] at hm
     obtain rfl := Option.some.inj hm
     exact absurd hu (lst (by rw [← h']; exact hall e' he' hb'))
   rw [getD_set_ne true hne]; exact h
theorem bar_first {i : Nat} {oi : Oper} {v : Value} (hi : ops[i]? = some oi) (hsel : ∀ (j : Nat) (o : Oper) cs b, ops[j]? = some o → o.op ≠ .select cs b)
   (hQ : ∀ c a w, Q (.panic c) (a.put oi.dst v) w → Q (.panic c) a w) : ∀ (n : Nat) (l : Array Bool) (a : Act) (w : World),
     (∀ j oj, ops[j]? = some oj → j ≠ i → l.getD j true = false → (∀ e ∈ oj.after, Region.binds md e = true → e.on ≠ i) → oi.apart ops oj = true) →
     Waits md ops B i l → i ∈ Region.ready md ops l → YieldsIf P ops S oi v a → S w →
     wpBar P md ops Q B S n (l.setIfInBounds i true) (a.put oi.dst v) w → wpBar P md ops Q B S (n + 1) l a w := by
 intro n
 induction n with
 | zero =>
   intro l a w _ _ hr hy hS H
   refine ⟨fun h => (by rw [h] at hr; cases hr), fun j hj => ?_⟩
   by_cases hji : j = i
   · subst hji; exact hy.wpOp hi hS ⟨fun _ => hS, H⟩
   · have := ready_mono hj hji
     rw [H.1] at this
     cases this
 | succ n ih =>
   intro l a w hfree hW hr hy hS H
   refine ⟨fun h => (by rw [h] at hr; cases hr), fun j hj => ?_⟩
   by_cases hji : j = i
   · subst hji; exact hy.wpOp hi hS ⟨fun _ => hS, H⟩
   · have hB := bar_no hW hr hj
     obtain ⟨hun, oj, hoj, hall⟩ := mem_ready.1 hj
     have hno : ∀ e ∈ oj.after, Region.binds md e = true → e.on ≠ i := fun e he hb heq => absurd (mem_ready.1 hr).1 (lst (by rw [← heq]; exact hall e he hb))
     have step := wpOp_putIf hoj (hfree j oj hoj hji hun hno) (fun cs b => hsel i oi cs b hi) (fun cs b => hsel j oj cs b hoj) hQ hy (H.2 j (ready_mono hj hji))
     refine wpOp_mono (fun x u k => ?_) step
     have hSu := k.2.1 hB
     refine ⟨fun _ => hSu, ih _ x u (fun m om hm hmi hmun hmno => hfree m om hm hmi ?_ hmno) (hW.step hr hj) (ready_mono hr (Ne.symm hji)) k.1 hSu ?_⟩
     · by_cases hjm : j = m
       · subst hjm; exact hun
       · rw [getD_set_ne true hjm] at hmun; exact hmun
     · rw [Array.setIfInBounds_comm _ _ hji]; exact k.2.2
/-! ### The moves -/
theorem bar_take {i : Nat} {oi : Oper} {v : Value} {n : Nat} {l : Array Bool} {a : Act} {w : World} (hi : ops[i]? = some oi) (hs : Region.noSelect ops = true) (hf : Region.free md ops l i = true)
   (hr : (Region.ready md ops l).contains i = true) (hw : waitsB md ops B i l = true) (hQ : ∀ c a w, Q (.panic c) (a.put oi.dst v) w → Q (.panic c) a w) (hy : YieldsIf P ops S oi v a) (hS : S w)
   (h : wpBar P md ops Q B S n (l.setIfInBounds i true) (a.put oi.dst v) w) : wpBar P md ops Q B S (n + 1) l a w :=
 bar_first hi (Region.noSelect_spec hs) hQ n l a w (Region.free_spec hi hf) (waits_of hw) (by simpa using hr) hy hS h
theorem bar_one {i : Nat} {o : Oper} {n : Nat} {l : Array Bool} {a : Act} {w : World} (hr : Region.ready md ops l = [i]) (ho : ops[i]? = some o)
   (h : ∀ K : Act → World → Prop, Shut (∀ a w, (B i = false → S w) → wpBar P md ops Q B S n (l.setIfInBounds i true) a w → K a w) → if Region.wanted o (yielded ops a.tmps) = true then Oper.wp P o a w K Q else K (a.put o.dst undef) w) :
   wpBar P md ops Q B S (n + 1) l a w := by
 refine ⟨fun h0 => (by rw [hr] at h0; cases h0), fun j hj => ?_⟩
 rw [hr] at hj
 obtain rfl : j = i := by simpa using hj
 exact wpOp_step ho fun K hK => h K fun a w hS hW => hK a w ⟨hS, hW⟩
theorem bar_done {l : Array Bool} {a : Act} {w : World} (hr : Region.ready md ops l = []) (h : Q .normal a w) : ∀ n, wpBar P md ops Q B S n l a w
 | 0 => ⟨hr, h⟩
 | _ + 1 => ⟨fun _ => h, by rw [hr]; simp⟩
theorem bar_begin {id : Nat} {a : Act} {w : World} (hm : P.follows .mixedOrders = true) (h : wpBar P .any ops Q B S ops.size (Array.replicate ops.size false) a w.drew) : (Code.region id ops true).wp P Q a w :=
 wp_region_any hm (any_of_bar _ _ _ _ h)
end

open Go

section
variable {P : Program} {ops : Array Oper} {Q : Exit → Act → World → Prop} {md : Region.Mode} {B : Nat → Bool} {S : World → Prop}
/-- Each of rs may come up next. -/
def Bars (P : Program) (md : Region.Mode) (ops : Array Oper) (Q : Exit → Act → World → Prop) (B : Nat → Bool) (S : World → Prop) (n : Nat) (l : Array Bool) (a : Act) (w : World) (rs : List Nat) : Prop :=
 ∀ i ∈ rs, wpOp P ops Q i (fun x v => (B i = false → S v) ∧ wpBar P md ops Q B S n (l.setIfInBounds i true) x v) a w
theorem Bars.nil {n : Nat} {l : Array Bool} {a : Act} {w : World} : Bars P md ops Q B S n l a w [] := fun _ h => by cases h
theorem Bars.cons {n : Nat} {l : Array Bool} {a : Act} {w : World} {i : Nat} {o : Oper} {rs : List Nat} (ho : ops[i]? = some o)
   (h : ∀ K : Act → World → Prop, Shut (∀ a w, (B i = false → S w) → wpBar P md ops Q B S n (l.setIfInBounds i true) a w → K a w) → if Region.wanted o (yielded ops a.tmps) = true then Oper.wp P o a w K Q else K (a.put o.dst undef) w)
   (hs : Bars P md ops Q B S n l a w rs) : Bars P md ops Q B S n l a w (i :: rs) := fun j hj => by
 rcases List.mem_cons.1 hj with rfl | hj
 · exact wpOp_step ho fun K hK => h K fun a w hS hW => hK a w ⟨hS, hW⟩
 · exact hs j hj
theorem bar_list {rs : List Nat} {n : Nat} {l : Array Bool} {a : Act} {w : World} (hr : Region.ready md ops l = rs) (hne : rs ≠ []) (h : Bars P md ops Q B S n l a w rs) : wpBar P md ops Q B S (n + 1) l a w :=
 ⟨fun h0 => absurd (hr.symm.trans h0) hne, fun i hi => h i (hr ▸ hi)⟩
/-- As bar_take, the operation off the list: so it is laid out. -/
theorem bar_takeL {i : Nat} {oi : Oper} {v : Value} {n : Nat} {l : Array Bool} {a : Act} {w : World} (hi : ops.toList[i]? = some oi) (hs : Region.noSelect ops = true) (hf : Region.free md ops l i = true)
   (hr : (Region.ready md ops l).contains i = true) (hw : waitsB md ops B i l = true) (hQ : ∀ c a w, Q (.panic c) (a.put oi.dst v) w → Q (.panic c) a w) (hy : YieldsIf P ops S oi v a) (hS : S w)
   (h : wpBar P md ops Q B S n (l.setIfInBounds i true) (a.put oi.dst v) w) : wpBar P md ops Q B S (n + 1) l a w :=
 bar_take (by rw [← Array.getElem?_toList]; exact hi) hs hf hr hw hQ hy hS h
end

open Go

theorem bar_cast {P : Program} {ops : Array Oper} {Q : Exit → Act → World → Prop} {md : Region.Mode} {B : Nat → Bool} {S : World → Prop} {n : Nat} {l : Array Bool} {a : Act} {w : World} (l' : Array Bool) (hl : l = l') (h : wpBar P md ops Q B S n l' a w) : wpBar P md ops Q B S n l a w := hl ▸ h
end Go.Proofs.YtalejeknigbhjaaGreatDoor
