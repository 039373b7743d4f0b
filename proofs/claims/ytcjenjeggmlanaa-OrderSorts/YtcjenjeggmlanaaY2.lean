/-
 A region that draws its order, and whose last operations (the bar: stores) wait for all that reads: what reads may be taken first as long as S holds, and S need not hold behind the bar. No program in sight.
 A bar that waits for an operation by any number of others between. No program in sight.
 Package order's queue: Push; container/heap: Push, Pop.
 container/heap over package order's queue: Push, Pop.
 container/heap over package order's queue, beside rows of others.
 Groups and orders of things: plain data.
 Package order: things, groups.
 Rows that are made whole.
-/
import Derived.Deep.RegionHeld3
import Derived.Test.YtcjenjeggmlanaaY1
import Derived.Laws.OwnMore
namespace Go.Proofs.Ytcjenjeggmlanaa
open Go

section
variable {P : Program} {ops : Array Oper} {Q : Exit → Act → World → Prop} {md : Region.Mode} {B : Nat → Bool} {S : World → Prop}

/-- Whichever order is picked from here on; S holds behind each operation that is not of the bar. -/
def wpBar (P : Program) (md : Region.Mode) (ops : Array Oper) (Q : Exit → Act → World → Prop) (B : Nat → Bool) (S : World → Prop) : Nat → Array Bool → Act → World → Prop
 | 0, l, a, w => Region.ready md ops l = [] ∧ Q .normal a w
 | n + 1, l, a, w => (Region.ready md ops l = [] → Q .normal a w) ∧ ∀ i ∈ Region.ready md ops l, wpOp P ops Q i (fun x v => (B i = false → S v) ∧ wpBar P md ops Q B S n (l.setIfInBounds i true) x v) a w
theorem any_of_bar : ∀ (n : Nat) (l : Array Bool) (a : Act) (w : World), wpBar P md ops Q B S n l a w → wpAny P md ops Q n l a w
 | 0, _, _, _, h => h
 | n + 1, _, _, _, h => ⟨h.1, fun i hi => wpOp_mono (fun x v k => any_of_bar n _ x v k.2) (h.2 i hi)⟩
/-- The bar waits for operation i, by itself or by one that has not come up and waits for i. -/
def Waits (md : Region.Mode) (ops : Array Oper) (B : Nat → Bool) (i : Nat) (l : Array Bool) : Prop :=
 ∀ j o, ops[j]? = some o → B j = true → ∃ e ∈ o.after, Region.binds md e = true ∧ (e.on = i ∨ (l.getD e.on true = false ∧ ∃ k, ops[e.on]? = some k ∧ ∃ e' ∈ k.after, Region.binds md e' = true ∧ e'.on = i))
theorem lst {l : Array Bool} {k : Nat} (h : l.getD k false = true) : ¬ l.getD k true = false := by
 rcases Nat.lt_or_ge k l.size with h' | h'
 · simp [h'] at h ⊢; exact h
 · simp [Array.getElem?_eq_none h'] at h
theorem Waits.step {i j : Nat} {l : Array Bool} (hW : Waits md ops B i l) (hi : i ∈ Region.ready md ops l) (hj : j ∈ Region.ready md ops l) : Waits md ops B i (l.setIfInBounds j true) := by
 intro k o ho hb
 obtain ⟨_, oj, hoj, hall⟩ := mem_ready.1 hj
 have hu := (mem_ready.1 hi).1
 obtain ⟨e, he, hbe, h | ⟨h, m, hm, e', he', hb', h'⟩⟩ := hW k o ho hb
 · exact ⟨e, he, hbe, .inl h⟩
 · refine ⟨e, he, hbe, .inr ⟨?_, m, hm, e', he', hb', h'⟩⟩
   have hne : j ≠ e.on := by
     intro hje
     rw [← hje, hoj] at hm
     obtain rfl := Option.some.inj hm
     exact absurd hu (lst (by rw [← h']; exact hall e' he' hb'))
   rw [getD_set_ne true hne]; exact h
/-! ### The moves -/
theorem bar_one {i : Nat} {o : Oper} {n : Nat} {l : Array Bool} {a : Act} {w : World} (hr : Region.ready md ops l = [i]) (ho : ops[i]? = some o)
   (h : ∀ K : Act → World → Prop, Shut (∀ a w, (B i = false → S w) → wpBar P md ops Q B S n (l.setIfInBounds i true) a w → K a w) → if Region.wanted o (yielded ops a.tmps) = true then Oper.wp P o a w K Q else K (a.put o.dst undef) w) :
   wpBar P md ops Q B S (n + 1) l a w := by
 refine ⟨fun h0 => (by rw [hr] at h0; cases h0), fun j hj => ?_⟩
 rw [hr] at hj
 obtain rfl : j = i := by simpa using hj
 exact wpOp_step ho fun K hK => h K fun a w hS hW => hK a w ⟨hS, hW⟩
theorem bar_done {l : Array Bool} {a : Act} {w : World} (hr : Region.ready md ops l = []) (h : Q .normal a w) : ∀ n, wpBar P md ops Q B S n l a w
 | 0 => ⟨hr, h⟩
 | _ + 1 => ⟨fun _ => h, by rw [hr]; simp⟩
theorem bar_begin {id : Nat} {a : Act} {w : World} (hm : P.follows .mixedOrders = true) (h : wpBar P .any ops Q B S ops.size (Array.replicate ops.size false) a w.drew) : (Code.region id ops true).wp P Q a w :=
 wp_region_any hm (any_of_bar _ _ _ _ h)
end

open Go

section
variable {P : Program} {ops : Array Oper} {Q : Exit → Act → World → Prop} {md : Region.Mode} {B : Nat → Bool} {S : World → Prop}
/-- Operation j waits for operation i, by itself or by one that has not come up and waits for i. -/
inductive Wt (md : Region.Mode) (ops : Array Oper) (l : Array Bool) (i : Nat) : Nat → Prop
 | here {j : Nat} {o : Oper} {e : Edge} (ho : ops[j]? = some o) (he : e ∈ o.after) (hb : Region.binds md e = true) (h : e.on = i) : Wt md ops l i j
 | more {j : Nat} {o : Oper} {e : Edge} (ho : ops[j]? = some o) (he : e ∈ o.after) (hb : Region.binds md e = true) (hu : l.getD e.on true = false) (h : Wt md ops l i e.on) : Wt md ops l i j
def wtB (md : Region.Mode) (ops : Array Oper) (l : Array Bool) (i : Nat) : Nat → Nat → Bool
 | 0, _ => false
 | n + 1, j => match ops[j]? with
   | none => false
   | some o => o.after.any fun e => Region.binds md e && (e.on == i || (!l.getD e.on true && wtB md ops l i n e.on))
theorem wt_of {l : Array Bool} {i : Nat} : ∀ (n j : Nat), wtB md ops l i n j = true → Wt md ops l i j
 | 0, _, h => by cases h
 | n + 1, j, h => by
   unfold wtB at h
   cases ho : ops[j]? with
   | none => rw [ho] at h; cases h
   | some o =>
     rw [ho] at h
     obtain ⟨e, he, h2⟩ := Array.any_eq_true'.1 h
     simp only [Bool.and_eq_true, Bool.or_eq_true, beq_iff_eq, Bool.not_eq_true'] at h2
     rcases h2.2 with h3 | ⟨h3, h4⟩
     · exact .here ho he h2.1 h3
     · exact .more ho he h2.1 h3 (wt_of n _ h4)
theorem wt_no {i j : Nat} {l : Array Bool} (h : Wt md ops l i j) (hi : i ∈ Region.ready md ops l) : j ∉ Region.ready md ops l := by
 intro hj
 obtain ⟨_, o, ho, hall⟩ := mem_ready.1 hj
 have hu := (mem_ready.1 hi).1
 cases h with
 | here ho' he hb h =>
   rw [ho] at ho'
   obtain rfl := Option.some.inj ho'
   exact absurd hu (lst (by rw [← h]; exact hall _ he hb))
 | more ho' he hb hu' _ =>
   rw [ho] at ho'
   obtain rfl := Option.some.inj ho'
   exact absurd hu' (lst (hall _ he hb))
theorem Wt.step {i j q : Nat} {l : Array Bool} (h : Wt md ops l i q) (hi : i ∈ Region.ready md ops l) (hj : j ∈ Region.ready md ops l) : Wt md ops (l.setIfInBounds j true) i q := by
 induction h with
 | here ho he hb h => exact .here ho he hb h
 | @more q' o e ho he hb hu h ih =>
   refine .more ho he hb ?_ ih
   have hne : j ≠ e.on := fun h' => wt_no h hi (by rw [← h']; exact hj)
   rw [getD_set_ne true hne]
   exact hu
def WaitsT (md : Region.Mode) (ops : Array Oper) (B : Nat → Bool) (i : Nat) (l : Array Bool) : Prop := ∀ j, j < ops.size → B j = true → Wt md ops l i j
def waitsT (md : Region.Mode) (ops : Array Oper) (B : Nat → Bool) (i : Nat) (l : Array Bool) : Bool := (List.range ops.size).all fun j => !B j || wtB md ops l i ops.size j
theorem waitsT_of {i : Nat} {l : Array Bool} (h : waitsT md ops B i l = true) : WaitsT md ops B i l := by
 intro j hj hb
 have h1 := List.all_eq_true.1 h j (List.mem_range.2 hj)
 rw [hb] at h1
 exact wt_of _ _ (by simpa using h1)
theorem barT_first {i : Nat} {oi : Oper} {v : Value} (hi : ops[i]? = some oi) (hsel : ∀ (j : Nat) (o : Oper) cs b, ops[j]? = some o → o.op ≠ .select cs b)
   (hQ : ∀ c a w, Q (.panic c) (a.put oi.dst v) w → Q (.panic c) a w) : ∀ (n : Nat) (l : Array Bool) (a : Act) (w : World),
     (∀ j oj, ops[j]? = some oj → j ≠ i → l.getD j true = false → (∀ e ∈ oj.after, Region.binds md e = true → e.on ≠ i) → oi.apart ops oj = true) →
     WaitsT md ops B i l → i ∈ Region.ready md ops l → YieldsIf P ops S oi v a → S w →
     wpBar P md ops Q B S n (l.setIfInBounds i true) (a.put oi.dst v) w → wpBar P md ops Q B S (n + 1) l a w := by
 intro n
 induction n with
 | zero =>
   intro l a w _ _ hr hy hS H
   refine ⟨fun h => (by rw [h] at hr; cases hr), fun j hj => ?_⟩
   by_cases hji : j = i
   · subst hji; exact hy.wpOp hi hS ⟨fun _ => hS, H⟩
   · have := ready_mono hj hji
     rw [H.1] at this
     cases this
 | succ n ih =>
   intro l a w hfree hW hr hy hS H
   refine ⟨fun h => (by rw [h] at hr; cases hr), fun j hj => ?_⟩
   by_cases hji : j = i
   · subst hji; exact hy.wpOp hi hS ⟨fun _ => hS, H⟩
   · obtain ⟨hun, oj, hoj, hall⟩ := mem_ready.1 hj
     have hB : B j = false := by
       cases hb : B j
       · rfl
       · exact absurd hj (wt_no (hW j (Array.getElem?_eq_some_iff.1 hoj).1 hb) hr)
     have hno : ∀ e ∈ oj.after, Region.binds md e = true → e.on ≠ i := fun e he hb heq => absurd (mem_ready.1 hr).1 (lst (by rw [← heq]; exact hall e he hb))
     have step := wpOp_putIf hoj (hfree j oj hoj hji hun hno) (fun cs b => hsel i oi cs b hi) (fun cs b => hsel j oj cs b hoj) hQ hy (H.2 j (ready_mono hj hji))
     refine wpOp_mono (fun x u k => ?_) step
     have hSu := k.2.1 hB
     refine ⟨fun _ => hSu, ih _ x u (fun m om hm hmi hmun hmno => hfree m om hm hmi ?_ hmno) (fun q hq hb => (hW q hq hb).step hr hj) (ready_mono hr (Ne.symm hji)) k.1 hSu ?_⟩
     · by_cases hjm : j = m
       · subst hjm; exact hun
       · rw [getD_set_ne true hjm] at hmun; exact hmun
     · rw [Array.setIfInBounds_comm _ _ hji]; exact k.2.2
theorem barT_take {i : Nat} {oi : Oper} {v : Value} {n : Nat} {l : Array Bool} {a : Act} {w : World} (hi : ops.toList[i]? = some oi) (hs : Region.noSelect ops = true) (hf : Region.free md ops l i = true)
   (hr : (Region.ready md ops l).contains i = true) (hw : waitsT md ops B i l = true) (hQ : ∀ c a w, Q (.panic c) (a.put oi.dst v) w → Q (.panic c) a w) (hy : YieldsIf P ops S oi v a) (hS : S w)
   (h : wpBar P md ops Q B S n (l.setIfInBounds i true) (a.put oi.dst v) w) : wpBar P md ops Q B S (n + 1) l a w :=
 barT_first (by rw [← Array.getElem?_toList]; exact hi) (Region.noSelect_spec hs) hQ n l a w (Region.free_spec (by rw [← Array.getElem?_toList]; exact hi) hf) (waitsT_of hw) (by simpa using hr) hy hS h
theorem barT_one {i : Nat} {o : Oper} {n : Nat} {l : Array Bool} {a : Act} {w : World} (hr : Region.ready md ops l = [i]) (ho : ops.toList[i]? = some o)
   (h : ∀ K : Act → World → Prop, Shut (∀ a w, (B i = false → S w) → wpBar P md ops Q B S n (l.setIfInBounds i true) a w → K a w) → if Region.wanted o (yielded ops a.tmps) = true then Oper.wp P o a w K Q else K (a.put o.dst undef) w) :
   wpBar P md ops Q B S (n + 1) l a w := bar_one hr (by rw [← Array.getElem?_toList]; exact ho) h
/-- One that is not of the bar: S holds behind it. -/
theorem barT_hold {i : Nat} {o : Oper} {n : Nat} {l : Array Bool} {a : Act} {w : World} (hr : Region.ready md ops l = [i]) (ho : ops.toList[i]? = some o)
   (h : ∀ K : Act → World → Prop, Shut (∀ a w, S w → (S w → wpBar P md ops Q B S n (l.setIfInBounds i true) a w) → K a w) → if Region.wanted o (yielded ops a.tmps) = true then Oper.wp P o a w K Q else K (a.put o.dst undef) w) :
   wpBar P md ops Q B S (n + 1) l a w := barT_one hr ho (fun K hK => h K (fun a w hS hW => hK a w (fun _ => hS) (hW hS)))
end

open Go.RowKit
set_option maxHeartbeats 4000000

theorem ta_any (x : Int) (w : World) : (Instr.typeAssert (.iface 3 (.int .i64 x)) 20 3 false).run Try.prog w = .ok (.int .i64 x) w := by kernel_rfl
theorem num_cells (x : Nat) (j : Nat) (u : Value) (h : (cN x)[j]? = some u) : (#[.int .i64 (x : Int)] : Array Value)[j]? = some u := by
 have hj : j < 1 := (List.getElem?_eq_some_iff.1 h).1
 match j, hj with
 | 0, _ => exact h
theorem qm_grow {P : Nat → Prop} {b N c x : Nat} {p : Option Addr} {w0 W Y w2 : World} {l : List Nat} {v2 : Value} (h : QM P b W l (.slice p N c)) (hN : l.length = N) (e : Ext W Y) (E : ExtP P w0 W) (hb : ∀ k, P k → k < w0.heap.size)
   (o : w2.ownsRow 0 3 1 v2 (N + 1) ((l ++ [x]).flatMap cN)) (g : Y.grownBy w2 (Value.slice p N c).ownBlock) (nb : v2.ownBlock = (Value.slice p N c).ownBlock ∨ v2.ownBlock = some Y.heap.size) :
   w2.cell? ⟨b, 0, none⟩ = some (.slice p N c) ∧ w2.frozen? ⟨b, 0, none⟩ = false ∧ QM P b (w2.setCell ⟨b, 0, none⟩ v2) (l ++ [x]) v2 ∧ ExtP P w0 (w2.setCell ⟨b, 0, none⟩ v2) := by
 have hY := h.ext e
 have hlt := heap_lt hY.blk
 have e1 := g.block b hlt (fun e => h.d e.symm)
 have hv : v2.ownBlock ≠ some b := by
   intro e2
   rcases nb with nb | nb
   · exact h.d (nb ▸ e2)
   · rw [nb] at e2
     cases e2
     exact Nat.lt_irrefl _ hlt
 have X2 : ExtP P w0 w2 := (E.trans e).grown g h.nr
 have hr : ∀ g, v2.ownBlock = some g → ¬ P g := by
   intro g' e2 hp
   rcases nb with nb | nb
   · exact h.nr g' (nb ▸ e2) hp
   · rw [nb] at e2
     cases e2
     have h1 := hb _ hp
     have h2 := (E.trans e).size
     omega
 refine ⟨(cells_heap e1 0).1.trans hY.cell.1, (cells_heap e1 0).2.trans hY.cell.2, ⟨blk_set (e1.trans hY.blk) rfl, h.nb, own_far (own_eq o (by simp [hN]) rfl) _ hv, hv, hr⟩, X2.setCell h.nb _⟩
set_option maxRecDepth 100000 in
theorem qpush_any (P : Nat → Prop) (b : Nat) (w0 W : World) (l : List Nat) (x : Nat) (v : Value) (h : QM P b W l v) (E : ExtP P w0 W) (hb : ∀ k, P k → k < w0.heap.size) (hn : l.length ≤ 5000) :
   Calls Try.prog 47 #[.pointer (some ⟨b, 0, none⟩), .iface 3 (.int .i64 (x : Int))] W fun e w' => e = .returned (.tuple #[]) ∧ ∃ v', QM P b w' (l ++ [x]) v' ∧ ExtP P w0 w' := by
 obtain ⟨p, c, rfl, -⟩ := own_form h.o
 obtain ⟨N, hN⟩ : ∃ N, l.length = N := ⟨_, rfl⟩
 rw [hN] at h
 have HN : Hid (l.length = N) := hN
 have HNV : Hid (N + 1 ≤ 1000000) := by show _ ≤ _; omega
 have H : Hid (QM P b W l (.slice p N c)) := h
 have HE : Hid (ExtP P w0 W ∧ (∀ k, P k → k < w0.heap.size) ∧ l.length ≤ 5000) := ⟨E, hb, hn⟩
 have ta := ta_any (x : Int)
 clear h E hb hn hN
 go_enter Try.func47, Try.ntmps47
 go_upto_region 0 with fail
 refine bar_begin (B := fun i => i == 9) (S := (fun V => V.cell? ⟨b, 0, none⟩ = some (.slice p N c))) (by kernel_rfl) ?_
 obtain ⟨y0, hy0⟩ : ∃ y0, World.drew W = y0 := ⟨_, rfl⟩
 have EY : Hid (Ext W y0) := by
   show Ext _ _
   rw [← hy0]
   exact (Ext.refl _).drew
 rw [hy0]
 clear hy0
 have mkS : Hid (∀ V, Ext y0 V → (fun V => V.cell? ⟨b, 0, none⟩ = some (.slice p N c)) V) := fun V e => (H.out.ext (EY.out.trans e)).cell.1
 have HOW : Hid (∀ V, Ext y0 V → V.ownsRow 0 3 1 (.slice p N c) N (l.flatMap cN)) := fun V e => own_eq (H.out.ext (EY.out.trans e)).o HN.out rfl
 have HBS : Hid (∀ V, Ext y0 V → 0 ≤ V.heap.size) := fun V _ => Nat.zero_le _
 have PS : Hid (∀ v2 w2 (_ : w2.ownsRow 0 3 1 v2 (N + 1) ((l ++ [x]).flatMap cN)) (_ : (y0.alloc (.cells #[.int .i64 (x : Int)] 3)).grownBy w2 (Value.slice p N c).ownBlock) (_ : v2.ownBlock = (Value.slice p N c).ownBlock ∨ v2.ownBlock = some (y0.alloc (.cells #[.int .i64 (x : Int)] 3)).heap.size),
     w2.cell? ⟨b, 0, none⟩ = some (.slice p N c) ∧ w2.frozen? ⟨b, 0, none⟩ = false ∧ QM P b (w2.setCell ⟨b, 0, none⟩ v2) (l ++ [x]) v2 ∧ ExtP P w0 (w2.setCell ⟨b, 0, none⟩ v2)) := fun v2 w2 o g nb => qm_grow H.out HN.out (EY.out.trans ((Ext.refl _).alloc _)) HE.out.1 HE.out.2.1 o g nb
 have hS0 := mkS.out y0 (Ext.refl _)
 refine barT_take (i := 0) (v := ?vz0) rfl (by kernel_rfl) (by kernel_rfl) (by kernel_rfl) (by kernel_rfl) (fun _ _ _ h => h) (Or.inl ⟨by rfl, ?hz0⟩) hS0 ?rz0
 case hz0 => (intro W9 hSW; (try dsimp only at hSW); first | (go_simp; done) | (go_simp; with_reducible rfl))
 try go_frame
 refine barT_take (i := 1) (v := ?vz1) rfl (by kernel_rfl) (by kernel_rfl) (by kernel_rfl) (by kernel_rfl) (fun _ _ _ h => h) (Or.inl ⟨by rfl, ?hz1⟩) hS0 ?rz1
 case hz1 => (intro W9 hSW; (try dsimp only at hSW); first | (go_simp; done) | (go_simp; with_reducible rfl))
 try go_frame
 refine barT_take (i := 2) (v := ?vz2) rfl (by kernel_rfl) (by kernel_rfl) (by kernel_rfl) (by kernel_rfl) (fun _ _ _ h => h) (Or.inl ⟨by rfl, ?hz2⟩) hS0 ?rz2
 case hz2 => (intro W9 hSW; (try dsimp only at hSW); first | (go_simp; done) | (go_simp; with_reducible rfl))
 try go_frame
 refine barT_take (i := 3) (v := ?vz3) rfl (by kernel_rfl) (by kernel_rfl) (by kernel_rfl) (by kernel_rfl) (fun _ _ _ h => h) (Or.inl ⟨by rfl, ?hz3⟩) hS0 ?rz3
 case hz3 => (intro W9 hSW; (try dsimp only at hSW); first | (go_simp; done) | (go_simp; with_reducible rfl))
 try go_frame
 refine barT_take (i := 4) (v := ?vz4) rfl (by kernel_rfl) (by kernel_rfl) (by kernel_rfl) (by kernel_rfl) (fun _ _ _ h => h) (Or.inl ⟨by rfl, ?hz4⟩) hS0 ?rz4
 case hz4 => (intro W9 hSW; (try dsimp only at hSW); first | (go_simp; done) | (go_simp; with_reducible rfl))
 try go_frame
 refine barT_take (i := 5) (v := ?vz5) rfl (by kernel_rfl) (by kernel_rfl) (by kernel_rfl) (by kernel_rfl) (fun _ _ _ h => h) (Or.inl ⟨by rfl, ?hz5⟩) hS0 ?rz5
 case hz5 => (intro W9 hSW; (try dsimp only at hSW); first | (go_simp; done) | (go_simp; with_reducible rfl))
 try go_frame
 refine barT_hold (i := 6) (by kernel_rfl) rfl (fun KK hKK => ?_)
 go_simp
 skip
 try go_wp2_with fail
 refine hKK.out _ _ ?_ (fun hS1 => ?_)
 · (try dsimp only); (first | exact HS2.out | (refine mkS.out _ ?_; ((with_reducible (repeat (first | assumption | exact Ext.refl _ | apply Ext.drew | apply Ext.drewN | apply Ext.alloc))); done)))
 clear hKK KK hS0
 try go_frame
 refine barT_hold (i := 7) (by kernel_rfl) rfl (fun KK hKK => ?_)
 refine step_app eltU cN_len cN_one (by decide) _ _ _ _ _ N 1 _ l [x] 0 rfl rfl (by rfl) (by rfl) (HOW.out _ ((Ext.refl _).alloc _)) rfl (RdG.one (top_heap _ _) (num_cells x)) HNV.out (HBS.out _ ((Ext.refl _).alloc _)) ?_; intro v2 w2 O2 G2 N2; obtain ⟨p2, c2, rfl, _⟩ := own_form O2; have H2 : Hid _ := PS.out _ _ O2 G2 N2; have HS2 : Hid ((fun V => V.cell? ⟨b, 0, none⟩ = some (.slice p N c)) w2) := H2.out.1; have f1 := H2.out.2.1; clear O2 G2 N2
 refine hKK.out _ _ ?_ (fun hS2 => ?_)
 · (try dsimp only); (first | exact HS2.out | (refine mkS.out _ ?_; ((with_reducible (repeat (first | assumption | exact Ext.refl _ | apply Ext.drew | apply Ext.drewN | apply Ext.alloc))); done)))
 clear hKK KK hS1
 try go_frame
 refine barT_take (i := 8) (v := ?vz8) rfl (by kernel_rfl) (by kernel_rfl) (by kernel_rfl) (by kernel_rfl) (fun _ _ _ h => h) (Or.inl ⟨by rfl, ?hz8⟩) hS2 ?rz8
 case hz8 => (intro W9 hSW; (try dsimp only at hSW); first | (go_simp; done) | (go_simp; with_reducible rfl))
 try go_frame
 refine barT_one (i := 9) (by kernel_rfl) rfl (fun KK hKK => ?_)
 go_simp
 skip
 try go_wp2_with fail
 refine hKK.out _ _ (fun h => absurd h (by decide)) ?_
 clear hKK KK
 try go_frame
 refine bar_done (by kernel_rfl) ?_ _
 go_wp2_with fail
 refine bodyPost_end (v := .tuple #[]) (by simp [results, Try.results47, go_sem]) rfl ?_
 exact ⟨rfl, _, H2.out.2.2.1, H2.out.2.2.2⟩

open Go.RowKit
set_option maxHeartbeats 4000000

/-- The queue holds l, in the heap's order. -/
def QH (P : Nat → Prop) (b : Nat) (w0 W : World) (l : List Nat) : Prop := ∃ l' v, QM P b W l' v ∧ ExtP P w0 W ∧ l'.Perm l ∧ Hp l' l'.length
set_option maxRecDepth 100000 in
theorem hpush_any (P : Nat → Prop) (b : Nat) (w0 W : World) (l : List Nat) (x : Nat) (h : QH P b w0 W l) (hb : ∀ k, P k → k < w0.heap.size) (hn : l.length ≤ 4999) :
   Calls Try.prog 20 #[.iface 48 (.pointer (some ⟨b, 0, none⟩)), .iface 3 (.int .i64 (x : Int))] W fun e w' => e = .returned (.tuple #[]) ∧ QH P b w0 w' (x :: l) := by
 obtain ⟨l', v, h1, h2, h3, h4⟩ := h
 have hl := h3.length_eq
 have cp := qpush_any P b w0 W l' x v h1 h2 hb (by omega)
 have mp := fun W => me_push ⟨b, 0, none⟩ W
 have HB : Hid ((∀ k, P k → k < w0.heap.size) ∧ l'.length ≤ 4999 ∧ l'.Perm l ∧ Hp l' l'.length) := ⟨hb, by omega, h3, h4⟩
 clear h1 h2 h3 h4 hl hn hb
 go_enter Try.func20, Try.ntmps20
 go_wp2_with fail
 refine cp.mono ?_
 rintro e w1 ⟨rfl, v1, q1, e1⟩
 obtain ⟨g, c, rfl, -, -, -⟩ := q1.row (by simp)
 have cu := up_any P b g c w0 w1 (l' ++ [x]) l'.length q1 e1 HB.out.1 (by have := HB.out; simp; omega) (by simp) (up_start x HB.out.2.2.2)
 have kb := q1.cell.1
 have ml := fun W h => me_len b W (some ⟨g, 0, none⟩) (l' ++ [x]).length c h
 obtain ⟨N, hN⟩ : ∃ N, (l' ++ [x]).length = N := ⟨_, rfl⟩
 rw [hN] at kb ml
 have cl := fun W => len_any W (some ⟨g, 0, none⟩) N c
 obtain ⟨K, hK⟩ : ∃ K, l'.length = K := ⟨_, rfl⟩
 have wN : wrap64 ((N : Int) - 1) = (K : Int) := by
   have := HB.out.2.1
   rw [← hN, ← hK]
   simp
   exact wrapZ _ (by omega)
 rw [hK] at cu
 clear cp mp q1 e1 hN hK
 go_wp2_with fail
 refine (cl _).mono ?_
 rintro e w2 ⟨rfl, rfl⟩
 go_wp2_with fail
 refine cu.mono ?_
 rintro e w3 ⟨rfl, l2, q2, hp2⟩
 have HQ : Hid (QH P b w0 w3 (x :: l)) := ⟨l2, _, q2.q, q2.e, q2.p.trans ((List.perm_append_comm).trans (List.Perm.cons x HB.out.2.2.1)), hp2⟩
 clear cl cu q2 hp2 kb ml
 go_wp2_with fail
 refine bodyPost_end (v := .tuple #[]) (by simp [results, Try.results20, go_sem]) rfl ?_
 exact ⟨rfl, HQ.out⟩
/-- What Pop leaves. -/
def PoQ (P : Nat → Prop) (b : Nat) (w0 : World) (l : List Nat) (e : Ending) (w' : World) : Prop := ∃ m l2, e = .returned (.iface 3 (.int .i64 ((m : Nat) : Int))) ∧ QH P b w0 w' l2 ∧ l.Perm (m :: l2) ∧ ∀ y ∈ l2, m ≤ y
theorem mem_gt {l : List Nat} {y : Nat} (h : y ∈ l) : ∃ k, k < l.length ∧ gt l k = y := by
 obtain ⟨k, hk, e⟩ := List.getElem_of_mem h
 exact ⟨k, hk, gt_of (by rw [List.getElem?_eq_getElem hk, e])⟩
theorem hp_least {l : List Nat} (h : Hp l l.length) {y : Nat} (hy : y ∈ l) : gt l 0 ≤ y := by
 obtain ⟨k, hk, rfl⟩ := mem_gt hy
 exact hp_min h k k (Nat.le_refl _) hk
theorem take_last {l : List Nat} {n : Nat} (h : l.length = n + 1) : l.take n ++ [gt l n] = l := by
 have hd : l.drop n = [gt l n] := by
   obtain ⟨hlt, e⟩ := List.getElem?_eq_some_iff.1 (gt_at (l := l) (i := n) (by omega))
   rw [List.drop_eq_getElem_cons hlt, e, List.drop_of_length_le (by omega)]
 rw [← hd, List.take_append_drop]
set_option maxRecDepth 100000 in
theorem hpop_any (P : Nat → Prop) (b : Nat) (w0 W : World) (l : List Nat) (h : QH P b w0 W l) (hb : ∀ k, P k → k < w0.heap.size) (hn : l.length ≤ 5000) (h0 : l ≠ []) :
   Calls Try.prog 22 #[.iface 48 (.pointer (some ⟨b, 0, none⟩))] W (PoQ P b w0 l) := by
 obtain ⟨l', v, h1, h2, h3, h4⟩ := h
 have hl := h3.length_eq
 have h0' := List.length_pos_iff.2 h0
 obtain ⟨n, hN⟩ : ∃ n, l'.length = n + 1 := ⟨l'.length - 1, by omega⟩
 obtain ⟨g, c, rfl, -, -, -⟩ := h1.row (by omega)
 have HB : Hid ((∀ k, P k → k < w0.heap.size) ∧ l'.length ≤ 5000 ∧ l'.Perm l ∧ Hp l' l'.length ∧ l'.length = n + 1) := ⟨hb, by omega, h3, h4, hN⟩
 have HQ : Hid (QM P b W l' (.slice (some ⟨g, 0, none⟩) l'.length c) ∧ ExtP P w0 W) := ⟨h1, h2⟩
 have kb := h1.cell.1
 obtain ⟨N, hN'⟩ : ∃ N, l'.length = N := ⟨_, rfl⟩
 have HN : Hid (l'.length = N) := hN'
 rw [hN'] at kb
 have ml := fun W h => me_len b W (some ⟨g, 0, none⟩) N c h
 have cl := fun W => len_any W (some ⟨g, 0, none⟩) N c
 have ms := fun W h => me_swap b W (some ⟨g, 0, none⟩) N c h
 have mp := fun W => me_pop ⟨b, 0, none⟩ W
 have wN : wrap64 ((N : Int) - 1) = (n : Int) := by unfold wrap64; omega
 have cs := swap_any P b g c w0 W l' 0 n h1 h2 hb (by omega) (by omega)
 rw [hN'] at cs
 clear h1 h2 h3 h4 hl h0' hN hb hn hN' h0
 go_enter Try.func22, Try.ntmps22
 go_wp2_with fail
 refine (cl _).mono ?_
 rintro e w1 ⟨rfl, rfl⟩
 go_wp2_with fail
 refine cs.mono ?_
 rintro e w2 ⟨rfl, q2, e2⟩
 have cd := down_any P b g c n w0 w2 (swp l' 0 n) (by rw [swp_len, HN.out]; exact q2) e2 HB.out.1 (by rw [swp_len]; exact HB.out.2.1) (by rw [swp_len]; have := HB.out; omega) (dn_start HB.out.2.2.2.1 HB.out.2.2.2.2)
 clear cl cs ml ms kb q2 e2
 go_wp2_with fail
 refine cd.mono ?_
 rintro e w3 ⟨⟨x, rfl⟩, l3, q3, hp3, hz3⟩
 have hl3 : l3.length = n + 1 := by rw [q3.p.length_eq, swp_len]; exact HB.out.2.2.2.2
 rw [swp_j (by have := HB.out; omega)] at hz3
 have cp := qpop_any P b w0 w3 (l3.take n) (gt l3 n) _ (by rw [take_last hl3]; exact q3.q) q3.e HB.out.1 (by have := HB.out; simp; omega)
 have HL : Hid (Hp (l3.take n) (l3.take n).length ∧ l'.Perm (gt l' 0 :: l3.take n) ∧ ∀ y ∈ l3.take n, gt l' 0 ≤ y) := by
   have hp := pop_perm HB.out.2.2.2.2 q3.p hz3
   exact ⟨hp_cut hp3 (by omega), hp, fun y hy => hp_least HB.out.2.2.2.1 (hp.mem_iff.2 (List.mem_cons_of_mem _ hy))⟩
 rw [hz3] at cp
 clear cd q3 hp3 hz3 hl3
 go_wp2_with fail
 refine cp.mono ?_
 rintro e w4 ⟨rfl, v4, q4, e4⟩
 have HF : Hid (PoQ P b w0 l (.returned (.iface 3 (.int .i64 ((gt l' 0 : Nat) : Int)))) w4) := ⟨gt l' 0, l3.take n, rfl, ⟨_, v4, q4, e4, .refl _, HL.out.1⟩, HB.out.2.2.1.symm.trans HL.out.2.1, HL.out.2.2⟩
 clear cp q4 e4 mp
 go_wp2_with fail
 go_ret
 exact HF.out

open Go.RowKit
set_option maxHeartbeats 4000000

/-- The queue holds l, its row in v. -/
def QS (P : Nat → Prop) (b : Nat) (W : World) (l : List Nat) (v : Value) : Prop := ∃ l', QM P b W l' v ∧ l'.Perm l ∧ Hp l' l'.length
/-- Rows of others, in these blocks. -/
def OtB (b : Nat) (v : Value) (W : World) (os : List Nat) : Prop := ∀ k ∈ os, k < W.heap.size ∧ k ≠ b ∧ v.ownBlock ≠ some k
def OtK (v : Value) (W W' : World) (os : List Nat) : Prop := ∀ k ∈ os, W'.heap[k]? = W.heap[k]? ∧ v.ownBlock ≠ some k
theorem qs_in {P : Nat → Prop} {b : Nat} {W : World} {l : List Nat} {v : Value} {os : List Nat} (h : QS P b W l v) (ho : OtB b v W os) : QH (fun k => P k ∨ k ∈ os) b W W l := by
 obtain ⟨l', q, p, hp⟩ := h
 refine ⟨l', v, ⟨q.blk, ?_, q.o, q.d, ?_⟩, ExtP.refl _ _, p, hp⟩
 · rintro (h | h)
   · exact q.nb h
   · exact (ho b h).2.1 rfl
 · rintro g hg (h | h)
   · exact q.nr g hg h
   · exact (ho g h).2.2 hg
theorem qs_out {P : Nat → Prop} {b : Nat} {W W' : World} {l2 : List Nat} {v : Value} {os : List Nat} (ho : OtB b v W os) (h : QH (fun k => P k ∨ k ∈ os) b W W' l2) :
   ∃ v', QS P b W' l2 v' ∧ OtK v' W W' os ∧ ExtP P W W' := by
 obtain ⟨l', v', q, e, p, hp⟩ := h
 refine ⟨v', ⟨l', ⟨q.blk, fun h => q.nb (.inl h), q.o, q.d, fun g hg h => q.nr g hg (.inl h)⟩, p, hp⟩, fun k hk => ⟨e.block k (ho k hk).1 (.inr hk), fun hg => q.nr k hg (.inr hk)⟩, ⟨e.os, e.tape, e.output, e.size, fun k hk hp => e.block k hk (.inl hp)⟩⟩
theorem hpush_st (P : Nat → Prop) (b : Nat) (W : World) (l : List Nat) (v : Value) (os : List Nat) (x : Nat) (h : QS P b W l v) (ho : OtB b v W os) (hP : ∀ k, P k → k < W.heap.size) (hn : l.length ≤ 4999) :
   Calls Try.prog 20 #[.iface 48 (.pointer (some ⟨b, 0, none⟩)), .iface 3 (.int .i64 (x : Int))] W fun e w' => e = .returned (.tuple #[]) ∧ ∃ v', QS P b w' (x :: l) v' ∧ OtK v' W w' os ∧ ExtP P W w' :=
 (hpush_any (fun k => P k ∨ k ∈ os) b W W l x (qs_in h ho) (by
   rintro k (hk | hk)
   · exact hP k hk
   · exact (ho k hk).1) hn).mono fun _ _ ⟨e, h⟩ => ⟨e, qs_out ho h⟩
theorem hpop_st (P : Nat → Prop) (b : Nat) (W : World) (l : List Nat) (v : Value) (os : List Nat) (h : QS P b W l v) (ho : OtB b v W os) (hP : ∀ k, P k → k < W.heap.size) (hn : l.length ≤ 5000) (h0 : l ≠ []) :
   Calls Try.prog 22 #[.iface 48 (.pointer (some ⟨b, 0, none⟩))] W fun e w' => ∃ m l2, e = .returned (.iface 3 (.int .i64 ((m : Nat) : Int))) ∧ l.Perm (m :: l2) ∧ (∀ y ∈ l2, m ≤ y) ∧ ∃ v', QS P b w' l2 v' ∧ OtK v' W w' os ∧ ExtP P W w' :=
 (hpop_any (fun k => P k ∨ k ∈ os) b W W l (qs_in h ho) (by
   rintro k (hk | hk)
   · exact hP k hk
   · exact (ho k hk).1) hn h0).mono fun _ _ ⟨m, l2, e, h, p, hm⟩ => ⟨m, l2, e, p, hm, qs_out ho h⟩

/-- Pairs as what needs what. -/
def EL (L : List (Nat × Nat)) (a b : Nat) : Prop := (a, b) ∈ L
theorem EL.congr {L M : List (Nat × Nat)} (h : ∀ p, p ∈ L ↔ p ∈ M) : EL L = EL M := by
 funext a b
 exact propext (h (a, b))
/-- Numbers of groups. -/
def IsGrp (L : List (Nat × Nat)) (n : Nat) (gs : List Int) : Prop :=
 gs.length = n ∧ ∀ v, v < n → (Rch (EL L) v v → ∃ g : Nat, gs[v]? = some (g : Int) ∧ Lst (EL L) v g) ∧ (¬ Rch (EL L) v v → gs[v]? = some (-1))
theorem grp_one {L : List (Nat × Nat)} {n : Nat} {g h : List Int} (a : IsGrp L n g) (b : IsGrp L n h) : g = h := by
 apply List.ext_getElem?
 intro v
 by_cases hv : v < n
 · by_cases hr : Rch (EL L) v v
   · obtain ⟨x, h1, h2⟩ := (a.2 v hv).1 hr
     obtain ⟨y, h3, h4⟩ := (b.2 v hv).1 hr
     rw [h1, h3, h2.one h4]
   · rw [(a.2 v hv).2 hr, (b.2 v hv).2 hr]
 · rw [List.getElem?_eq_none (by rw [a.1]; omega), List.getElem?_eq_none (by rw [b.1]; omega)]
theorem IsGrp.congr {L M : List (Nat × Nat)} {n : Nat} {g : List Int} (h : ∀ p, p ∈ L ↔ p ∈ M) (a : IsGrp L n g) : IsGrp M n g := by
 unfold IsGrp at a ⊢
 rw [← EL.congr h]
 exact a
/-- What a thing needs is there, or of its group. -/
def Rdy (L : List (Nat × Nat)) (out : List Nat) (x : Nat) : Prop := ∀ b, (x, b) ∈ L → b ∈ out ∨ Con (EL L) x b
theorem Rdy.congr {L M : List (Nat × Nat)} (h : ∀ p, p ∈ L ↔ p ∈ M) {out : List Nat} {x : Nat} : Rdy L out x ↔ Rdy M out x := by
 unfold Rdy
 rw [EL.congr h]
 exact ⟨fun a b hb => a b ((h _).2 hb), fun a b hb => a b ((h _).1 hb)⟩
/-- The next of an order. -/
def Nxt (L : List (Nat × Nat)) (n : Nat) (out : List Nat) (x : Nat) : Prop := x < n ∧ x ∉ out ∧ Rdy L out x ∧ ∀ y, y < n → y ∉ out → Rdy L out y → x ≤ y
theorem Nxt.one {L : List (Nat × Nat)} {n : Nat} {out : List Nat} {x y : Nat} (h : Nxt L n out x) (k : Nxt L n out y) : x = y :=
 Nat.le_antisymm (h.2.2.2 y k.1 k.2.1 k.2.2.1) (k.2.2.2 x h.1 h.2.1 h.2.2.1)
/-- An order, so far. -/
def Ords (L : List (Nat × Nat)) (n : Nat) (o : List Nat) : Prop := ∀ k x, o[k]? = some x → Nxt L n (o.take k) x
def IsOrd (L : List (Nat × Nat)) (n : Nat) (o : List Nat) : Prop := o.length = n ∧ Ords L n o
theorem ords_nil (L : List (Nat × Nat)) (n : Nat) : Ords L n [] := by intro k x h; simp at h
theorem ords_snoc {L : List (Nat × Nat)} {n : Nat} {o : List Nat} {x : Nat} (h : Ords L n o) (hx : Nxt L n o x) : Ords L n (o ++ [x]) := by
 intro k y hy
 by_cases hk : k < o.length
 · rw [List.getElem?_append_left hk] at hy
   rw [List.take_append_of_le_length (Nat.le_of_lt hk)]
   exact h k y hy
 · have hk' : k = o.length := by
     have := (List.getElem?_eq_some_iff.1 hy).1
     simp at this
     omega
   subst hk'
   rw [List.getElem?_append_right (Nat.le_refl _)] at hy
   simp at hy
   subst hy
   rw [List.take_left]
   exact hx
theorem ords_lt {L : List (Nat × Nat)} {n : Nat} {o : List Nat} (h : Ords L n o) : ∀ x ∈ o, x < n := by
 intro x hx
 obtain ⟨k, hk, e⟩ := List.getElem_of_mem hx
 exact (h k x (by rw [List.getElem?_eq_getElem hk, e])).1
theorem ords_nodup {L : List (Nat × Nat)} {n : Nat} {o : List Nat} (h : Ords L n o) : o.Nodup := by
 rw [List.nodup_iff_pairwise_ne, List.pairwise_iff_getElem]
 intro i j hi hj hij e
 have := (h j o[j] (List.getElem?_eq_getElem hj)).2.1
 rw [← e] at this
 refine this ?_
 have h2 : (o.take j)[i]? = some o[i] := by rw [List.getElem?_take, if_pos hij, List.getElem?_eq_getElem hi]
 exact List.mem_of_getElem? h2
theorem ord_one {L : List (Nat × Nat)} {n : Nat} {o p : List Nat} (h : IsOrd L n o) (k : IsOrd L n p) : o = p := by
 have main : ∀ m, m ≤ n → o.take m = p.take m := by
   intro m
   induction m with
   | zero => intro _; rfl
   | succ m ih =>
     intro hm
     have e := ih (by omega)
     obtain ⟨x, hx⟩ : ∃ x, o[m]? = some x := ⟨_, List.getElem?_eq_getElem (by rw [h.1]; omega)⟩
     obtain ⟨y, hy⟩ : ∃ y, p[m]? = some y := ⟨_, List.getElem?_eq_getElem (by rw [k.1]; omega)⟩
     have a := h.2 m x hx
     have b := k.2 m y hy
     rw [← e] at b
     rw [List.take_add_one, List.take_add_one, e, hx, hy, a.one b]
 have := main n (Nat.le_refl _)
 rwa [List.take_of_length_le (by rw [h.1]; exact Nat.le_refl _), List.take_of_length_le (by rw [k.1]; exact Nat.le_refl _)] at this
theorem IsOrd.congr {L M : List (Nat × Nat)} {n : Nat} {o : List Nat} (h : ∀ p, p ∈ L ↔ p ∈ M) (a : IsOrd L n o) : IsOrd M n o :=
 ⟨a.1, fun k x hx => by
   obtain ⟨h1, h2, h3, h4⟩ := a.2 k x hx
   exact ⟨h1, h2, (Rdy.congr h).1 h3, fun y a b c => h4 y a b ((Rdy.congr h).2 c)⟩⟩
theorem nodup_len {l M : List Nat} (h : l.Nodup) (hs : ∀ x ∈ l, x ∈ M) : l.length ≤ M.length := by
 induction l generalizing M with
 | nil => simp
 | cons a l ih =>
   rw [List.nodup_cons] at h
   have ha := hs a (List.mem_cons_self ..)
   have := ih (M := M.erase a) h.2 (fun x hx => by
     have hne : x ≠ a := fun e => h.1 (e ▸ hx)
     exact (List.mem_erase_of_ne hne).2 (hs x (List.mem_cons_of_mem _ hx)))
   rw [List.length_erase_of_mem ha] at this
   have := List.length_pos_of_mem ha
   simp
   omega
/-- How many below m are led to. -/
noncomputable def Rn (E : Nat → Nat → Prop) (v : Nat) : Nat → Nat
 | 0 => 0
 | m + 1 => Rn E v m + (@ite _ (RS E v m) (Classical.propDecidable _) 1 0)
theorem rn_le {E : Nat → Nat → Prop} {a b : Nat} (h : RS E a b) : ∀ m, Rn E b m ≤ Rn E a m
 | 0 => Nat.le_refl _
 | m + 1 => by
   have ih := rn_le h m
   unfold Rn
   by_cases hb : RS E b m
   · rw [if_pos hb, if_pos (h.trans hb)]
     omega
   · rw [if_neg hb]
     omega
theorem rn_lt {E : Nat → Nat → Prop} {a b : Nat} (h : RS E a b) (hn : ¬ RS E b a) : ∀ m, a < m → Rn E b m < Rn E a m
 | 0, h0 => absurd h0 (Nat.not_lt_zero _)
 | m + 1, h0 => by
   unfold Rn
   by_cases e : a = m
   · subst e
     have := rn_le h a
     rw [if_neg hn, if_pos (RS.refl E a)]
     omega
   · have ih := rn_lt h hn m (by omega)
     by_cases hb : RS E b m
     · rw [if_pos hb, if_pos (h.trans hb)]
       omega
     · rw [if_neg hb]
       omega
/-- While not all are there, one may come. -/
theorem some_rdy {L : List (Nat × Nat)} {n : Nat} (hL : ∀ p ∈ L, p.1 < n ∧ p.2 < n) {out : List Nat} {t : Nat} (ht : t < n) (h : t ∉ out) : ∃ y, y < n ∧ y ∉ out ∧ Rdy L out y := by
 apply Classical.byContradiction
 intro hno
 have main : ∀ m t, Rn (EL L) t n ≤ m → t < n → t ∉ out → False := by
   intro m
   induction m with
   | zero =>
     intro t hm ht h
     have hp : 0 < Rn (EL L) t n := by
       have : ∀ m, t < m → 0 < Rn (EL L) t m := by
         intro m
         induction m with
         | zero => intro h; exact absurd h (Nat.not_lt_zero _)
         | succ m ih =>
           intro h0
           unfold Rn
           by_cases e : t = m
           · subst e; rw [if_pos (RS.refl _ _)]; omega
           · have := ih (by omega); omega
       exact this n ht
     omega
   | succ m ih =>
     intro t hm ht h
     apply hno
     refine ⟨t, ht, h, fun b hb => ?_⟩
     by_cases hbo : b ∈ out
     · exact .inl hbo
     · refine .inr (Classical.byContradiction fun hc => ?_)
       have h1 : RS (EL L) t b := .one hb
       have h2 : ¬ RS (EL L) b t := fun h2 => hc ⟨h1, h2⟩
       have := rn_lt h1 h2 n ht
       exact ih b (by omega) (hL _ hb).2 hbo
 exact main _ t (Nat.le_refl _) ht h
theorem one_left {out : List Nat} {n : Nat} (h : out.length < n) : ∃ t, t < n ∧ t ∉ out := by
 apply Classical.byContradiction
 intro hno
 have := nodup_len (l := List.range n) List.nodup_range (M := out) (fun x hx => Classical.byContradiction fun hx' => hno ⟨x, List.mem_range.1 hx, hx'⟩)
 simp at this
 omega
theorem ords_len {L : List (Nat × Nat)} {n : Nat} {o : List Nat} (h : Ords L n o) : o.length ≤ n := by
 have := nodup_len (ords_nodup h) (M := List.range n) (fun x hx => List.mem_range.2 (ords_lt h x hx))
 simpa using this
/-- Nothing may come: all are there. -/
theorem ord_done {L : List (Nat × Nat)} {n : Nat} (hL : ∀ p ∈ L, p.1 < n ∧ p.2 < n) {o : List Nat} (h : Ords L n o) (hno : ∀ y, y < n → y ∉ o → ¬ Rdy L o y) : IsOrd L n o := by
 refine ⟨?_, h⟩
 rcases Nat.lt_or_ge o.length n with hlt | hge
 · exfalso
   obtain ⟨t, ht, hto⟩ := one_left hlt
   obtain ⟨y, h1, h2, h3⟩ := some_rdy hL ht hto
   exact hno y h1 h2 h3
 · exact Nat.le_antisymm (ords_len h) hge

/-! ### How many a thing waits for -/
/-- Of thing a: how many of what it needs are of another group and not there. -/
def pend (L : List (Nat × Nat)) (ls : Nat → Nat) (out : List Nat) (a : Nat) : Nat := (L.filter (fun p => p.1 == a && (ls p.1 != ls p.2) && !(out.contains p.2))).length
theorem pend_zero {L : List (Nat × Nat)} {ls : Nat → Nat} {out : List Nat} {a : Nat} (hls : ∀ p ∈ L, ls p.1 = ls p.2 ↔ Con (EL L) p.1 p.2) : pend L ls out a = 0 ↔ Rdy L out a := by
 unfold pend
 rw [List.length_eq_zero_iff, List.filter_eq_nil_iff]
 constructor
 · intro h b hb
   have := h (a, b) hb
   simp at this
   by_cases hc : ls a = ls b
   · exact .inr ((hls _ hb).1 hc)
   · exact .inl (this hc)
 · rintro h ⟨x, b⟩ hb
   simp
   intro hx hc
   subst hx
   rcases h b hb with h | h
   · exact h
   · exact absurd ((hls _ hb).2 h) hc
/-- Those that ask for t. -/
def ask (L : List (Nat × Nat)) (t : Nat) : List Nat := (L.filter (fun p => p.2 == t)).map (·.1)
def askN (ls : Nat → Nat) (t a : Nat) (l : List Nat) : Nat := (l.filter (fun x => x == a && (ls x != ls t))).length
theorem pend_step {ls : Nat → Nat} {out : List Nat} {t a : Nat} (ht : t ∉ out) : ∀ L : List (Nat × Nat), pend L ls out a = pend L ls (out ++ [t]) a + askN ls t a (ask L t)
 | [] => rfl
 | (x, y) :: L => by
   have ih := pend_step ht L (ls := ls) (a := a)
   unfold pend askN ask at ih ⊢
   by_cases hx : x = a
   · subst hx
     by_cases hy : y = t
     · subst hy
       by_cases hc : ls x = ls y
       · simp [hc] at ih ⊢; omega
       · simp [hc, ht] at ih ⊢; omega
     · by_cases hc : ls x = ls y
       · simp [hc, hy] at ih ⊢; omega
       · by_cases ho : y ∈ out
         · simp [hy, ho] at ih ⊢; omega
         · simp [hc, hy, ho] at ih ⊢; omega
   · by_cases hy : y = t
     · simp [hx, hy] at ih ⊢; omega
     · simp [hx, hy] at ih ⊢; omega

open Go.RowKit
set_option maxHeartbeats 4000000

def cM (x : Nat × Nat) : List Value := [.int .i64 (x.1 : Int), .int .i64 (x.2 : Int)]
/-- A pair is a pair of things. -/
def okP (n : Int) (x : Int × Int) : Bool := decide (0 ≤ x.1 ∧ x.1 < n ∧ 0 ≤ x.2 ∧ x.2 < n)
theorem RdQ.cell {W : World} {p : Option Addr} {n cp : Nat} {l : List (Int × Int)} (h : RdG cQ 2 W (.slice p n cp) l) {i : Nat} {x : Int × Int} (hi : l[i]? = some x) :
   ∃ b off, p = some ⟨b, off, none⟩ ∧ b < W.heap.size ∧ W.cell? ⟨b, off + i * 2, none⟩ = some (.int .i64 x.1) ∧ W.cell? ⟨b, off + i * 2 + 1, none⟩ = some (.int .i64 x.2) := by
 obtain ⟨b, off, h1, h2, h3⟩ := h.at hi
 exact ⟨b, off, h1, h2, h3 0 _ rfl, h3 1 _ rfl⟩
theorem RdM.cell {W : World} {p : Option Addr} {n cp : Nat} {l : List (Nat × Nat)} (h : RdG cM 2 W (.slice p n cp) l) {i : Nat} {x : Nat × Nat} (hi : l[i]? = some x) :
   ∃ b off, p = some ⟨b, off, none⟩ ∧ b < W.heap.size ∧ W.cell? ⟨b, off + i * 2, none⟩ = some (.int .i64 (x.1 : Int)) ∧ W.cell? ⟨b, off + i * 2 + 1, none⟩ = some (.int .i64 (x.2 : Int)) := by
 obtain ⟨b, off, h1, h2, h3⟩ := h.at hi
 exact ⟨b, off, h1, h2, h3 0 _ rfl, h3 1 _ rfl⟩
theorem all_take {α : Type} {f : α → Bool} {l : List α} {k : Nat} {x : α} (hx : l[k]? = some x) : (l.take (k + 1)).all f = ((l.take k).all f && f x) := by
 rw [take_at hx, List.all_append]
 simp
theorem ix0 (a b : Int) (w : World) : (Instr.index 33 (.agg #[.int .i64 a, .int .i64 b]) (.int .i64 0)).run Try.prog w = .ok (.int .i64 a) w := by kernel_rfl
theorem ix1 (a b : Int) (w : World) : (Instr.index 33 (.agg #[.int .i64 a, .int .i64 b]) (.int .i64 1)).run Try.prog w = .ok (.int .i64 b) w := by kernel_rfl
theorem allF {α : Type} {f : α → Bool} {l : List α} {k : Nat} {x : α} (hx : l[k]? = some x) (h : f x = false) : l.all f = false := by
 rw [List.all_eq_false]
 exact ⟨x, List.mem_of_getElem? hx, by rw [h]; simp⟩
set_option maxRecDepth 100000 in
theorem things_any (w : World) (v : Value) (l : List (Int × Int)) (n : Int) (h : RdG cQ 2 w v l) (hl : l.length ≤ 100000) :
   Calls Try.prog 13 #[.int .i64 n, v] w fun e w' => e = .returned (.bool (l.all (okP n))) ∧ Ext w w' := by
 obtain ⟨p, c, rfl, _⟩ := h.form
 have HR : Hid (RdG cQ 2 w (.slice p l.length c) l) := h
 have HL : Hid (l.length ≤ 100000) := hl
 obtain ⟨M, hM⟩ : ∃ M, l.length = M := ⟨_, rfl⟩
 have HM : Hid (l.length = M) := hM
 rw [hM] at HR
 clear h hl
 rw [hM]
 clear hM
 go_enter Try.func13, Try.ntmps13
 go_wp2_with fail
 go_loopw [11] (fun x wr => ∃ k : Nat, x = .int .i64 (k : Int) ∧ k ≤ M ∧ Ext w wr ∧ (l.take k).all (okP n) = true) (fun x _ => M - (intOf x).toNat)
 case atStart => exact ⟨0, rfl, Nat.zero_le _, Ext.refl _, rfl⟩
 case round =>
   obtain ⟨k, rfl, hk, hE, ha⟩ := hrel
   have HE : Hid (Ext w wr ∧ (l.take k).all (okP n) = true) := ⟨hE, ha⟩
   clear hE ha
   rcases Nat.lt_or_ge k M with hlt | hge
   · have hltI : (k : Int) < (M : Int) := by omega
     obtain ⟨x, hx⟩ : ∃ x, l[k]? = some x := ⟨_, List.getElem?_eq_getElem (by have := HM.out; omega)⟩
     obtain ⟨b, off, rfl, bl, c1, c2⟩ := RdQ.cell (HR.out.ext HE.out.1) hx
     have wk := wrapI k (by have := HL.out; have := HM.out; omega)
     obtain ⟨x1, x2⟩ := x
     have HX : Hid (l[k]? = some (x1, x2)) := hx
     clear hx
     go_upto_region 4 with fail
     have E2 : Ext w (wr.alloc (.cells #[.int .i64 x1, .int .i64 x2] 33)) := HE.out.1.alloc _
     have c3 : (wr.alloc (.cells #[.int .i64 x1, .int .i64 x2] 33)).cell? ⟨wr.heap.size, 0, none⟩ = some (.int .i64 x1) := by simp [go_sem]
     have c4 : (wr.alloc (.cells #[.int .i64 x1, .int .i64 x2] 33)).cell? ⟨wr.heap.size, 1, none⟩ = some (.int .i64 x2) := by simp [go_sem]
     go_wp2_with fail
     generalize hW : wr.alloc (.cells #[.int .i64 x1, .int .i64 x2] 33) = W2 at *
     have HE2 : Hid (Ext w W2) := E2
     clear hW c1 c2 E2 c3 c4 bl
     have qi0 := fun W => ix0 x1 x2 W
     have qi1 := fun W => ix1 x1 x2 W
     go_loopw [16] (fun y wq => wq = W2 ∧ (y = .int .i64 0 ∨ (y = .int .i64 1 ∧ 0 ≤ x1 ∧ x1 < n) ∨ (y = .int .i64 2 ∧ (0 ≤ x1 ∧ x1 < n) ∧ 0 ≤ x2 ∧ x2 < n))) (fun y _ => 2 - (intOf y).toNat)
     case atStart => exact ⟨rfl, .inl rfl⟩
     case round =>
       obtain ⟨rfl, (rfl | ⟨rfl, hx1⟩ | ⟨rfl, hx1, hx2⟩)⟩ := hrel
       · skip
         rcases Int.lt_or_le x1 0 with h1 | h1
         · have hf : Hid (l.all (okP n) = false) := allF HX.out (by unfold okP; simp; omega)
           go_wp2
           go_ret
           exact ⟨ret_bool hf.out.symm, HE2.out⟩
         · have h1' : ¬ x1 < 0 := by omega
           rcases Int.lt_or_le x1 n with h2 | h2
           · have h2' : ¬ n ≤ x1 := by omega
             have HY : Hid (0 ≤ x1 ∧ x1 < n) := ⟨h1, h2⟩
             clear h1 h2
             go_wp2
             go_roundw
             case rel => exact ⟨trivial, .inr (.inl ⟨rfl, HY.out⟩)⟩
             case measure => simp [intOf]
           · have hf : Hid (l.all (okP n) = false) := allF HX.out (by unfold okP; simp; omega)
             go_wp2
             go_ret
             exact ⟨ret_bool hf.out.symm, HE2.out⟩
       · have HX1 : Hid (0 ≤ x1 ∧ x1 < n) := hx1
         clear hx1
         rcases Int.lt_or_le x2 0 with h1 | h1
         · have hf : Hid (l.all (okP n) = false) := allF HX.out (by unfold okP; simp; omega)
           go_wp2
           go_ret
           exact ⟨ret_bool hf.out.symm, HE2.out⟩
         · have h1' : ¬ x2 < 0 := by omega
           rcases Int.lt_or_le x2 n with h2 | h2
           · have h2' : ¬ n ≤ x2 := by omega
             have HY : Hid (0 ≤ x2 ∧ x2 < n) := ⟨h1, h2⟩
             clear h1 h2
             go_wp2
             go_roundw
             case rel => exact ⟨trivial, .inr (.inr ⟨rfl, HX1.out, HY.out⟩)⟩
             case measure => simp [intOf]
           · have hf : Hid (l.all (okP n) = false) := allF HX.out (by unfold okP; simp; omega)
             go_wp2
             go_ret
             exact ⟨ret_bool hf.out.symm, HE2.out⟩
       · have HT : Hid ((l.take (k + 1)).all (okP n) = true) := by
           show _ = true
           rw [all_take HX.out, HE.out.2]
           unfold okP
           simp
           omega
         clear hx1 hx2
         go_wp2
         go_roundw
         case rel => exact ⟨k + 1, by rw [wk], hlt, HE2.out, HT.out⟩
         case measure => rw [wk]; simp [intOf]; omega
   · have hltI : ¬ (k : Int) < (M : Int) := by omega
     have HQ : Hid (l.all (okP n) = true) := by have := HE.out.2; rwa [List.take_of_length_le (by have := HM.out; omega)] at this
     go_wp2
     go_ret
     exact ⟨ret_bool HQ.out.symm, HE.out.1⟩

open Go.RowKit
set_option maxHeartbeats 4000000

def zI (n : Nat) : Array Value := madeCells #[.int .i64 0] n
def zL (n : Nat) : Array Value := madeCells #[.slice none 0 0] n
theorem mk_row {TS T : TypeId} {z : Value} {bytes : Nat} (hu : Try.prog.underlying TS = some (.slice T)) (hz : z.cells = #[z]) (h1 : (Try.prog.info? T).isSome = true) (h2 : (Try.prog.info? T).bind (fun i => i.zero) = some z) (h3 : (Try.prog.info? T).map (fun i => (i.size, i.bytes)) = some (1, bytes)) (hb : bytes ≤ 1000) (W : World) (l n : Nat) (hl : l ≤ n) (hn : n ≤ 1000000) :
   (Instr.makeSlice TS (.int .i64 (l : Int)) (.int .i64 (n : Int))).run Try.prog W = .ok (.slice (some ⟨W.heap.size, 0, none⟩) l n) (W.alloc (.cells (madeCells #[z] n) T)) := by
 cases h : Try.prog.info? T with
 | none => rw [h] at h1; cases h1
 | some i =>
   rw [h] at h2 h3
   simp at h2 h3
   have hbi : (i.bytes : Int) * (n : Int) ≤ 281474976710656 := by
     rw [h3.2]
     have : bytes * n ≤ 1000 * 1000000 := Nat.mul_le_mul hb hn
     have e : ((bytes * n : Nat) : Int) = (bytes : Int) * (n : Int) := Int.natCast_mul ..
     omega
   have := run_make (P := Try.prog) W TS T i z hu h h2 .i64 .i64 l n (by omega) (by omega) hbi (by omega)
   rw [hz, h3.1, Nat.mul_one] at this
   exact this
theorem mk_int (W : World) (l n : Nat) (hl : l ≤ n) (hn : n ≤ 1000000) : (Instr.makeSlice 24 (.int .i64 (l : Int)) (.int .i64 (n : Int))).run Try.prog W = .ok (.slice (some ⟨W.heap.size, 0, none⟩) l n) (W.alloc (.cells (zI n) 3)) :=
 mk_row (bytes := 8) Try.underlying24 rfl (by kernel_rfl) (by kernel_rfl) (by kernel_rfl) (by decide) W l n hl hn
theorem mk_lst (W : World) (l n : Nat) (hl : l ≤ n) (hn : n ≤ 1000000) : (Instr.makeSlice 40 (.int .i64 (l : Int)) (.int .i64 (n : Int))).run Try.prog W = .ok (.slice (some ⟨W.heap.size, 0, none⟩) l n) (W.alloc (.cells (zL n) 24)) :=
 mk_row (bytes := 24) Try.underlying40 rfl (by kernel_rfl) (by kernel_rfl) (by kernel_rfl) (by decide) W l n hl hn
theorem mk_full {W : World} {base n : Nat} {z : Value} {T : TypeId} (hb : base ≤ W.heap.size) (hn : n ≤ 1000000) {α : Type} {c : α → List Value} {e : α → Value} (he : ∀ x, c x = [e x]) (x : α) (hx : e x = z) :
   (W.alloc (.cells (madeCells #[z] n) T)).ownsRow base T 1 (sl W.heap.size n) n ((rng n (fun _ => x)).flatMap c) := by
 have := World.ownsRow_lit (size := 1) (e := T) W (madeCells #[z] n) n hb (by unfold maxLen; omega) (by rw [size_madeCells, Nat.mul_one])
 refine own_eq this rfl ?_
 have hm : ∀ l : List α, l.flatMap c = l.map e := by
   intro l
   induction l with
   | nil => rfl
   | cons y l ih => rw [List.flatMap_cons, ih, he]; rfl
 rw [hm, toList_madeCells_one]
 apply List.ext_getElem?
 intro i
 by_cases hi : i < n
 · simp [rng, hi, hx]
 · simp [rng, hi]
theorem mk_none {W : World} {base n : Nat} {z : Value} {T : TypeId} (hb : base ≤ W.heap.size) (hn : n ≤ 1000000) : (W.alloc (.cells (madeCells #[z] n) T)).ownsRow base T 1 (.slice (some ⟨W.heap.size, 0, none⟩) 0 n) 0 [] :=
 World.ownsRow_made W _ n hb (by unfold maxLen; omega) (by rw [size_madeCells, Nat.mul_one])
/-- A row that is read. -/
theorem rd_at {α : Type} {c : α → List Value} {e : α → Value} (he : ∀ x, c x = [e x]) {W : World} {p : Option Addr} {n cp : Nat} {f : Nat → α} (h : RdG c 1 W (.slice p n cp) (rng n f)) (h0 : 0 < n) :
   ∃ b off, p = some ⟨b, off, none⟩ ∧ b < W.heap.size ∧ ∀ i, i < n → W.cell? ⟨b, off + i, none⟩ = some (e (f i)) := by
 obtain ⟨b, off, h1, h2, _⟩ := h.at (rng_at f h0)
 refine ⟨b, off, h1, h2, fun i hi => ?_⟩
 obtain ⟨b', off', h3, _, h4⟩ := h.at (rng_at f hi)
 rw [h1] at h3
 cases h3
 have := h4 0 (e (f i)) (by rw [he]; rfl)
 rw [Nat.mul_one, Nat.add_zero] at this
 exact this
end Go.Proofs.Ytcjenjeggmlanaa
