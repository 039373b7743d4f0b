/-
 Lists in memory of the call's own, of whatever elements: append.
 The laws of layer 13: arguments made: area, own.
 What functions of many values come to, in plain: a mean is between; the order does not matter; parts.
-/
import Derived.Test.YtiahgalhemljnaaDoorProg
import Derived.Test.YtiahgalhemljnaaDoorQ1
import Derived.Deep.AppendLies
import Derived.Laws.OwnMore
import Derived.WalkLawsBesides
import Derived.Lib.AppendZeros
import Derived.Test.YtiahgalhemljnaaDoorQ14
import Derived.Test.YtiahgalhemljnaaDoorQ9
namespace Go.Proofs.YtiahgalhemljnaaDoor
open Go.RowKit
set_option maxHeartbeats 1000000

/-- What the program says of an element's type. -/
structure Elt (TS T : TypeId) (k bytes : Nat) : Prop where
 u : Tryd.prog.underlying TS = some (.slice T)
 i : ∃ i z, Tryd.prog.info? T = some i ∧ i.zero = some z ∧ i.size = k ∧ i.bytes = bytes ∧ z.cells.size = k
 k0 : 0 < k
theorem ext_grownG {w W W' : World} {base : Nat} {T : TypeId} {k n : Nat} {v : Value} {xs : List Value} (hB : W.ownsRow base T k v n xs) (hb : w.heap.size ≤ base) (hE : Ext w W) (hg : W.grownBy W' v.ownBlock) : Ext w W' := by
 refine ⟨hg.os.trans hE.os, hg.tape.trans hE.tape, hg.output.trans hE.output, Nat.le_trans hE.size hg.size, fun q hq => ?_⟩
 refine (hg.block q (Nat.lt_of_lt_of_le hq hE.size) ?_).trans (hE.block q hq)
 intro e
 have := (hB.lt q e.symm).1
 omega
/-- A slice that is read: these cells lie in a row. -/
def RowC (W : World) (v : Value) (m : Nat) (k : Nat) (news : List Value) : Prop := news.length = m * k ∧ ∃ p c, v = .slice p m c ∧ ((p = none ∧ m = 0) ∨ ∃ ad, p = some ad ∧ ∀ j u, news[j]? = some u → W.cell? (ad.add j) = some u)
theorem run_append_noneG {TS T : TypeId} {k bytes : Nat} (hT : Elt TS T k bytes) (w : World) (ty : TypeId) (p : Option Addr) (n cap c : Nat) (h : n ≤ cap) :
   (Builtin.append_ #[TS, TS] ty #[.slice p n cap, .slice none 0 c]).run Tryd.prog w = .ok (.slice p n cap) w := by
 obtain ⟨i, z, hi, hz, h1, h2, h3⟩ := hT.i
 cases p with
 | none => simp [Builtin.append_, run_underlying hT.u, sizeOf, typeInfo, hi, Builtin.lenOf, Builtin.firstCells, h]
 | some a => simp [Builtin.append_, run_underlying hT.u, sizeOf, typeInfo, hi, Builtin.lenOf, Builtin.firstCells, loadCells, h, storeCells]
/-- append, at the operation. -/
theorem own_app {TS T : TypeId} {k bytes : Nat} (hT : Elt TS T k bytes) {ops : Array Oper} {rest : List Oper} {o : Oper} {a : Act} {Q : Exit → Act → World → Prop} (W w : World) (s x : Operand) (v va : Value) (n m : Nat) (xs news : List Value) (base : Nat) (hgd : o.guard = none)
   (ho : o.op = .call { callee := .builtin .append, args := #[s, x], argTypes := #[TS, TS] })
   (hs : a.eval s = v) (hx : a.eval x = va) (hB : W.ownsRow base T k v n xs) (hR : RowC W va m k news) (h1c : ∀ u ∈ news, u.oneCell' = true) (hm : n + m ≤ maxLen) (hby : (n + m) * bytes ≤ 140737488355328) (hE : Ext w W) (hb : w.heap.size ≤ base) (hb2 : base ≤ W.heap.size)
   (h : ∀ v' W', W'.ownsRow base T k v' (n + m) (xs ++ news) → Ext w W' → W.grownBy W' v.ownBlock → wpList Tryd.prog ops Q rest (a.put o.dst v') W') : wpList Tryd.prog ops Q (o :: rest) a W := by
 obtain ⟨hl, p, c, rfl, hR⟩ := hR
 obtain ⟨i, z, hi, hz, h1, h2, h3⟩ := hT.i
 rcases hR with ⟨rfl, rfl⟩ | ⟨ad, rfl, hR⟩
 · have hn : news = [] := List.eq_nil_of_length_eq_zero (by simpa using hl)
   subst hn
   obtain ⟨p, cap, rfl, hc⟩ : ∃ p cap, v = .slice p n cap ∧ n ≤ cap := by
     rcases hB.2 with ⟨h, h0⟩ | ⟨g, cap, cur, h, _, _, h4, _⟩
     · exact ⟨none, 0, by rw [h, h0], by omega⟩
     · exact ⟨_, _, h, h4⟩
   refine Lib.wpList_append_run W hgd s x _ _ ho _ _ hs hx _ _ (run_append_noneG hT W o.type p n cap c hc) ?_
   exact h _ W (by simpa using hB) hE ⟨rfl, rfl, rfl, Nat.le_refl _, fun _ _ _ => rfl⟩
 · refine wpList_append_own_at W hgd s x TS ho base T i z k bytes hT.u hi hz h1 h2 h3 hT.k0 v n xs hs hB ad m c news hx hl hR h1c hm hby hb2 ?_
   intro v' W' h3 h4 _ _
   exact h v' W' h3 (ext_grownG hB hb hE h4) h4
theorem own_form {W : World} {base : Nat} {T : TypeId} {k n : Nat} {v : Value} {xs : List Value} (h : W.ownsRow base T k v n xs) : ∃ p c, v = .slice p n c ∧ n ≤ c := by
 rcases h.2 with ⟨h, h0⟩ | ⟨g, cap, cur, h, _, _, h4, _⟩
 · exact ⟨none, 0, by rw [h, h0], by omega⟩
 · exact ⟨_, _, h, h4⟩
/-- A literal without elements. -/
theorem own_new {T : TypeId} {k : Nat} (w W : World) (h : w.heap.size ≤ W.heap.size) : (W.alloc (.cells #[] T)).ownsRow w.heap.size T k (.slice (some ⟨W.heap.size, 0, none⟩) 0 0) 0 [] :=
 ⟨by simp, .inr ⟨W.heap.size, 0, #[], rfl, h, by show (W.heap.push _)[W.heap.size]? = _; rw [Array.getElem?_push_size], Nat.le_refl _, by simp, by simp, by simp⟩⟩

open Go.RowKit
set_option maxHeartbeats 1000000

theorem fm_len {α : Type} (c : α → List Value) (k : Nat) (hc : ∀ x, (c x).length = k) (l : List α) : (l.flatMap c).length = l.length * k := by
 induction l with
 | nil => simp
 | cons x l ih => rw [List.flatMap_cons, List.length_append, hc, ih, List.length_cons, Nat.succ_mul]; omega
theorem fm_at {α : Type} (c : α → List Value) (k : Nat) (hc : ∀ x, (c x).length = k) : ∀ (l : List α) (i : Nat) (x : α) (j : Nat), l[i]? = some x → j < k → (l.flatMap c)[i * k + j]? = (c x)[j]?
 | [], i, x, j, h, _ => by simp at h
 | y :: l, 0, x, j, h, hj => by
   simp at h; subst h
   rw [List.flatMap_cons, Nat.zero_mul, Nat.zero_add, List.getElem?_append_left (by rw [hc]; exact hj)]
 | y :: l, i + 1, x, j, h, hj => by
   have ih := fm_at c k hc l i x j (by simpa using h) hj
   rw [List.flatMap_cons, List.getElem?_append_right (by rw [hc, Nat.succ_mul]; omega), hc, ← ih]
   congr 1
   rw [Nat.succ_mul]; omega
theorem fm_get {α : Type} (c : α → List Value) (k : Nat) (hc : ∀ x, (c x).length = k) (hk : 0 < k) (l : List α) (j : Nat) (u : Value) (h : (l.flatMap c)[j]? = some u) : ∃ x, l[j / k]? = some x ∧ (c x)[j % k]? = some u := by
 have hj : j < l.length * k := by rw [← fm_len c k hc]; exact (List.getElem?_eq_some_iff.1 h).1
 have hi : j / k < l.length := by rw [Nat.div_lt_iff_lt_mul hk]; exact hj
 refine ⟨l[j / k], List.getElem?_eq_getElem hi, ?_⟩
 rw [← fm_at c k hc l (j / k) _ (j % k) (List.getElem?_eq_getElem hi) (Nat.mod_lt _ hk), Nat.mul_comm, Nat.div_add_mod]
 exact h
/-- The cells of a value, of an argument. -/
def cV (r : Rw) : List Value := [.int .i64 r.k, .int .i64 r.n, .string r.s, .int .i64 r.e]
def cA (q : Ag × Int × Int × Value) : List Value := [.bool q.1.area, .int .i64 q.2.1, .int .i64 q.2.2.1, q.2.2.2]
theorem cV_len (r : Rw) : (cV r).length = 4 := rfl
theorem eltV : Elt 36 26 4 40 := by
 refine ⟨Tryd.underlying36, ?_, by decide⟩
 have h1 : (Tryd.prog.info? 26).isSome = true := by kernel_rfl
 have h2 : (Tryd.prog.info? 26).bind (fun i => i.zero) = some (.agg #[.int .i64 0, .int .i64 0, .string ⟨#[]⟩, .int .i64 0]) := by kernel_rfl
 have h3 : (Tryd.prog.info? 26).map (fun i => (i.size, i.bytes)) = some (4, 40) := by kernel_rfl
 cases h : Tryd.prog.info? 26 with
 | none => rw [h] at h1; cases h1
 | some i =>
   rw [h] at h2 h3
   simp at h2 h3
   exact ⟨i, _, rfl, h2, h3.1, h3.2, rfl⟩
theorem RdV.row {B : Nat} {W : World} {v : Value} {l : List Rw} (h : RdV B W v l) : RowC W v l.length 4 (l.flatMap cV) := by
 obtain ⟨p, c, h1, h2, h3⟩ := h
 refine ⟨fm_len cV 4 cV_len l, p, c, h1, ?_⟩
 rcases h3 with rfl | ⟨b, off, rfl, _, _, h6⟩
 · cases p with
   | none => exact .inl ⟨rfl, rfl⟩
   | some ad => exact .inr ⟨ad, rfl, fun j u hu => by simp at hu⟩
 · refine .inr ⟨_, rfl, fun j u hu => ?_⟩
   obtain ⟨r, hr, hu⟩ := fm_get cV 4 cV_len (by decide) l j u hu
   obtain ⟨k0, k1, k2, k3⟩ := h6 _ r hr
   rw [Addr.add_lit]
   have hj := Nat.div_add_mod j 4
   have hm := Nat.mod_lt j (show 0 < 4 by decide)
   match hmm : j % 4, hu with
   | 0, hu => simp [cV] at hu; subst hu; rw [show off + j = off + j / 4 * 4 by omega]; exact k0
   | 1, hu => simp [cV] at hu; subst hu; rw [show off + j = off + j / 4 * 4 + 1 by omega]; exact k1
   | 2, hu => simp [cV] at hu; subst hu; rw [show off + j = off + j / 4 * 4 + 2 by omega]; exact k2
   | 3, hu => simp [cV] at hu; subst hu; rw [show off + j = off + j / 4 * 4 + 3 by omega]; exact k3
   | q + 4, _ => omega
theorem cV_one (l : List Rw) : ∀ u ∈ l.flatMap cV, u.oneCell' = true := by
 intro u hu
 obtain ⟨r, _, hu⟩ := List.mem_flatMap.1 hu
 simp [cV] at hu
 rcases hu with rfl | rfl | rfl | rfl <;> rfl
theorem own_rdV {W : World} {base : Nat} {v : Value} {l : List Rw} (h : W.ownsRow base 26 4 v l.length (l.flatMap cV)) : RdV W.heap.size W v l := by
 rcases h.2 with ⟨rfl, h0⟩ | ⟨g, cap, cur, rfl, h2, h3, h4, h5⟩
 · have : l = [] := List.eq_nil_of_length_eq_zero h0
   subst this
   exact ⟨none, 0, rfl, Nat.le_refl _, .inl rfl⟩
 · have hg : g < W.heap.size := (Array.getElem?_eq_some_iff.1 h3).1
   refine ⟨_, cap, rfl, h4, .inr ⟨g, 0, rfl, hg, hg, fun i r hr => ?_⟩⟩
   have k := fun j (hj : j < 4) u (hu : (cV r)[j]? = some u) => h.cells (g := g) rfl (i * 4 + j) u (by rw [fm_at cV 4 cV_len l i r j hr hj]; exact hu)
   simp only [Addr.add_lit] at k
   exact ⟨k 0 (by decide) _ rfl, k 1 (by decide) _ rfl, k 2 (by decide) _ rfl, k 3 (by decide) _ rfl⟩
set_option maxRecDepth 100000 in
theorem area_any (l : List Rw) (p : Option Addr) (n c : Nat) (W : World) (h : RdV W.heap.size W (.slice p n c) l) (hl : l.length ≤ 10000) :
   Calls Tryd.prog 19 #[.slice p n c] W fun e w' => ∃ p' c', e = .returned (.slice p' 1 c') ∧ RdA w'.heap.size w' (.slice p' 1 c') [⟨true, l⟩] ∧ Ext W w' := by
 have HR : Hid (RdV W.heap.size W (.slice p n c) l) := h
 have HL : Hid (l.length ≤ 10000) := hl
 have hn := h.len
 clear h hl
 go_enter Tryd.func19, Tryd.ntmps19
 go_wp2_with (at_builtin; refine own_app eltV _ W _ _ _ _ 0 l.length [] (l.flatMap cV) W.heap.size rfl rfl (by rfl) (by rfl) (own_new W W (Nat.le_refl _)) (HR.out.low ((Ext.refl _).alloc _)).row (cV_one l) (by unfold maxLen; have := HL.out; omega) (by have := HL.out; omega) ((Ext.refl _).alloc _) (Nat.le_refl _) (by simp) ?_; intro v' W' k1 k2 _; rw [Nat.zero_add, List.nil_append] at k1; obtain ⟨p2, c2, rfl, hc2⟩ := own_form k1; have K1 : Hid (RdV W'.heap.size W' (.slice p2 l.length c2) l) := own_rdV k1; have K2 : Hid (Ext W W') := k2; clear k1 k2 hc2)
 go_ret
 refine ⟨_, _, rfl, ⟨_, _, rfl, Nat.le_refl _, .inr ⟨W'.heap.size, 0, rfl, by simp, by simp, fun i a ha => ?_⟩⟩, K2.out.alloc _⟩
 match i, ha with
 | 0, ha =>
   simp at ha
   subst ha
   refine ⟨(l.length : Int), 1, .slice p2 l.length c2, ?_, ?_, ?_, ?_, K1.out.to (Nat.le_refl _) ((Ext.refl _).alloc _)⟩
   all_goals simp [go_sem]
 | i + 1, ha => simp at ha

open Go.RowKit

theorem between (gs : List Ag) (h : AgI gs) : ((fMean gs).k = 4) ∨ ((fMean gs).k = 2 ∧ (fBest ltB gs).k = 2 ∧ (fBest gtB gs).k = 2 ∧ (fBest ltB gs).n ≤ (fMean gs).n ∧ (fMean gs).n ≤ (fBest gtB gs).n) := by
 have hN := got_nums _ (seen_ok gs h)
 unfold fMean fBest orBad
 by_cases hb : (bad numF (seen gs)).k = 4
 · left; rw [if_pos hb]; exact hb
 rw [if_neg hb, if_neg hb, if_neg hb]
 generalize got numF (seen gs) = l at *
 by_cases hl : l.length = 0
 · left; rw [if_pos hl]; rfl
 · right
   have hne : l ≠ [] := fun e => hl (by rw [e]; rfl)
   obtain ⟨a1, u, hu, a2⟩ := lt_bestN hne
   obtain ⟨b1, v, hv, b2⟩ := gt_bestN hne
   obtain ⟨m, rfl, m1, m2⟩ := hN u hu
   obtain ⟨m', rfl, m1', m2'⟩ := hN v hv
   have e1 := le_sum a1
   have e2 := sum_le b1
   rw [if_neg hl, a2, b2]
   rw [a2] at e1
   rw [b2] at e2
   simp only [V.n] at e1 e2 ⊢
   obtain ⟨q1, q2, q3⟩ := mean_between (x := sumN l) (n := l.length) (by omega) e1 e2 m1 m2 m1'
   have hc : canB (meanV (sumN l) l.length) = true := by
     have : m ≠ -9223372036854775808 := by simpa [canB] using m2
     obtain ⟨_, _⟩ := m1
     simp [canB]; omega
   rw [q1]
   show (mkNum _).k = 2 ∧ _
   unfold toldR
   rw [if_pos rfl, mkNum_is hc, mkNum_is m2, mkNum_is m2']
   exact ⟨rfl, rfl, rfl, q2, q3⟩
/-! ### The order does not matter -/
/-- Values that are no errors. -/
def Good (l : List Rw) : Prop := ∀ r ∈ l, r.v.k ≠ 4
theorem area_seen (l : List Rw) : seen [⟨true, l⟩] = l.map (fun r => (r.v, true)) := by simp [seen, seen1]
theorem numF_good (v : V) (h : v.k ≠ 4) : (numF v true).k ≠ 4 := by
 cases v with
 | err e => exact absurd rfl h
 | _ => simp [numF, V.k]
theorem truF_good (v : V) (h : v.k ≠ 4) : (truF v true).k ≠ 4 := by
 cases v with
 | err e => exact absurd rfl h
 | _ => simp [truF, V.toBool, V.k]
theorem good_bad (l : List Rw) (h : Good l) : bad numF (seen [⟨true, l⟩]) = .blank ∧ bad truF (seen [⟨true, l⟩]) = .blank := by
 rw [area_seen]
 constructor
 · refine bad_none fun p hp => ?_
   obtain ⟨r, hr, rfl⟩ := List.mem_map.1 hp
   exact numF_good _ (h r hr)
 · refine bad_none fun p hp => ?_
   obtain ⟨r, hr, rfl⟩ := List.mem_map.1 hp
   exact truF_good _ (h r hr)
theorem orders {l m : List Rw} (p : l.Perm m) (h : Good l) : fSum [⟨true, l⟩] = fSum [⟨true, m⟩] ∧ fBest ltB [⟨true, l⟩] = fBest ltB [⟨true, m⟩] ∧ fBest gtB [⟨true, l⟩] = fBest gtB [⟨true, m⟩] ∧
   fMean [⟨true, l⟩] = fMean [⟨true, m⟩] ∧ fCount [⟨true, l⟩] = fCount [⟨true, m⟩] ∧ fAnd [⟨true, l⟩] = fAnd [⟨true, m⟩] ∧ fOr [⟨true, l⟩] = fOr [⟨true, m⟩] := by
 have h' : Good m := fun r hr => h r (p.symm.subset hr)
 obtain ⟨b1, b2⟩ := good_bad l h
 obtain ⟨b1', b2'⟩ := good_bad m h'
 have pn : (got numF (seen [⟨true, l⟩])).Perm (got numF (seen [⟨true, m⟩])) := by rw [area_seen, area_seen]; exact got_perm _ (p.map _)
 have pt : (got truF (seen [⟨true, l⟩])).Perm (got truF (seen [⟨true, m⟩])) := by rw [area_seen, area_seen]; exact got_perm _ (p.map _)
 refine ⟨?_, ?_, ?_, ?_, ?_, ?_, ?_⟩
 · unfold fSum; rw [b1, b1', sum_perm pn]
 · unfold fBest; rw [b1, b1', lt_perm pn]
 · unfold fBest; rw [b1, b1', gt_perm pn]
 · unfold fMean; rw [b1, b1', sum_perm pn, pn.length_eq]
 · unfold fCount; rw [pn.length_eq]
 · unfold fAnd fTruth; rw [b2, b2', tru_perm pt, pt.length_eq]
 · unfold fOr fTruth; rw [b2, b2', tru_perm pt, pt.length_eq]
/-! ### Parts -/
theorem parts_seen (l m : List Rw) : seen [⟨true, l⟩, ⟨true, m⟩] = seen [⟨true, l ++ m⟩] := by simp [seen, seen1]
theorem parts (l m : List Rw) : fSum [⟨true, l⟩, ⟨true, m⟩] = fSum [⟨true, l ++ m⟩] ∧ fBest ltB [⟨true, l⟩, ⟨true, m⟩] = fBest ltB [⟨true, l ++ m⟩] ∧ fBest gtB [⟨true, l⟩, ⟨true, m⟩] = fBest gtB [⟨true, l ++ m⟩] ∧
   fMean [⟨true, l⟩, ⟨true, m⟩] = fMean [⟨true, l ++ m⟩] ∧ fCat [⟨true, l⟩, ⟨true, m⟩] = fCat [⟨true, l ++ m⟩] ∧ fOr [⟨true, l⟩, ⟨true, m⟩] = fOr [⟨true, l ++ m⟩] := by
 unfold fSum fBest fMean fCat fOr fTruth
 rw [parts_seen]
 exact ⟨rfl, rfl, rfl, rfl, rfl, rfl⟩
end Go.Proofs.YtiahgalhemljnaaDoor
