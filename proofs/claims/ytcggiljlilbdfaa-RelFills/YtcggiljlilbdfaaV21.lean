/-
 Two trees in a new block; a tree's cells put elsewhere.
 The document's reader: exp, by powers.
 A region that draws its order, and whose last operations (the bar: stores) wait for all that reads: what reads may be taken first as long as S holds, and S need not hold behind the bar. No program in sight.
 Package rel: kinds with parts, what changes nothing, what moves one tree.
-/
import Derived.Test.YtcggiljlilbdfaaV18
import Derived.Test.YtcggiljlilbdfaaV20
import Derived.Test.YtcggiljlilbdfaaV15
import Derived.Deep.RegionHeld3
import Derived.Test.YtcggiljlilbdfaaV19
import Derived.Laws.EntriesVeiled
namespace Go.Proofs.Ytcggiljlilbdfaa
open Go.RowKit
set_option maxHeartbeats 6000000

/-- Two trees in a new block. -/
theorem IsL.two {P : Nat → Prop} {W : World} {x y : T} {lx ly : Value} (hx : IsL W P lx x.l) (hy : IsL W P ly y.l) (hP : P W.heap.size) :
   IsL (W.alloc (.cells #[.int .i64 x.k, .int .i64 x.n, .string (bs x.s), .int .i64 x.e, .int .i64 x.r.1, .int .i64 x.r.2.1, .bool x.r.2.2.1, .bool x.r.2.2.2, .int .i64 x.q.1, .int .i64 x.q.2.1, .bool x.q.2.2.1, .bool x.q.2.2.2, lx, .int .i64 y.k, .int .i64 y.n, .string (bs y.s), .int .i64 y.e, .int .i64 y.r.1, .int .i64 y.r.2.1, .bool y.r.2.2.1, .bool y.r.2.2.2, .int .i64 y.q.1, .int .i64 y.q.2.1, .bool y.q.2.2.1, .bool y.q.2.2.2, ly] 26)) P (.slice (some ⟨W.heap.size, 0, none⟩) 2 2) [x, y] := by
 refine .mk W.heap.size 0 2 2 [x, y] (fun i => if i = 0 then lx else ly) rfl (Nat.le_refl _) hP (by simp) ?_ ?_
 · intro i t j u hi hj
   rw [cell_of_row _ _ _ _ _ (0, 0) (new_top W _), Nat.zero_add, ← Array.getElem?_toList]
   have e : (#[.int .i64 x.k, .int .i64 x.n, .string (bs x.s), .int .i64 x.e, .int .i64 x.r.1, .int .i64 x.r.2.1, .bool x.r.2.2.1, .bool x.r.2.2.2, .int .i64 x.q.1, .int .i64 x.q.2.1, .bool x.q.2.2.1, .bool x.q.2.2.2, lx, .int .i64 y.k, .int .i64 y.n, .string (bs y.s), .int .i64 y.e, .int .i64 y.r.1, .int .i64 y.r.2.1, .bool y.r.2.2.1, .bool y.r.2.2.2, .int .i64 y.q.1, .int .i64 y.q.2.1, .bool y.q.2.2.1, .bool y.q.2.2.2, ly] : Array Value).toList = cellsT x lx ++ cellsT y ly := rfl
   rw [e]
   match i with
   | 0 =>
     simp at hi
     subst hi
     have hl : j < (cellsT x lx).length := (List.getElem?_eq_some_iff.mp hj).1
     rw [Nat.zero_mul, Nat.zero_add, List.getElem?_append_left hl]
     exact hj
   | 1 =>
     simp at hi
     subst hi
     rw [List.getElem?_append_right (by rw [cellsT_length]; omega), cellsT_length, show 1 * 13 + j - 13 = j by omega]
     exact hj
   | i + 2 => simp at hi
 · intro i t hi
   match i with
   | 0 => simp at hi; subst hi; exact hx.ext ((Ext.refl _).alloc _)
   | 1 => simp at hi; subst hi; exact hy.ext ((Ext.refl _).alloc _)
   | i + 2 => simp at hi

open Go.RowKit
set_option maxHeartbeats 6000000

/-- What a reading leaves: the tree and the words behind it; or a fault, with not more than L words. -/
def RX (w0 : World) (b : Nat) (W : World) (L : Nat) (lo d : Int) (r : Rs) (e : Ending) (w' : World) : Prop :=
 ExtB b W w' ∧ match r with
 | .ok a => (∃ lv, e = .returned (aggX a.1 lv) ∧ IsL w' (W.heap.size ≤ ·) lv a.1.l) ∧ ∃ pa, Rp w0 b w' a.2 d pa 0
 | .error _ => (∃ x p l c, e = .returned (aggX x (.slice p l c))) ∧ ∃ ts d' pa why, lo ≤ d' ∧ d' ≤ d ∧ why ≠ 0 ∧ ts.length ≤ L ∧ Rp w0 b w' ts d' pa why
theorem RX.cases {w0 W w' : World} {b L : Nat} {lo d : Int} {r : Rs} {e : Ending} (h : RX w0 b W L lo d r e w') :
   (∃ f x p l c ts d' pa why, r = .error f ∧ e = .returned (aggX x (.slice p l c)) ∧ lo ≤ d' ∧ d' ≤ d ∧ why ≠ 0 ∧ ts.length ≤ L ∧ Rp w0 b w' ts d' pa why ∧ ExtB b W w') ∨
   (∃ x ts p l c pa, r = .ok (x, ts) ∧ e = .returned (aggX x (.slice p l c)) ∧ IsL w' (W.heap.size ≤ ·) (.slice p l c) x.l ∧ Rp w0 b w' ts d pa 0 ∧ ExtB b W w') := by
 obtain ⟨h1, h2⟩ := h
 cases r with
 | error f =>
   obtain ⟨⟨x, p, l, c, he⟩, ts, d', pa, why, q1, q2, q3, q4, q5⟩ := h2
   exact .inl ⟨f, x, p, l, c, ts, d', pa, why, rfl, he, q1, q2, q3, q4, q5, h1⟩
 | ok a =>
   obtain ⟨⟨lv, he, hL⟩, pa, hR⟩ := h2
   obtain ⟨p, c, hf, _⟩ := hL.form
   subst hf
   exact .inr ⟨a.1, a.2, p, _, c, pa, rfl, he, hL, hR, h1⟩
theorem Rp.far {w0 W : World} {b g o : Nat} {ts : List Tk} {d pa why : Int} (h : Rp w0 b W ts d pa why) (hg : g ≠ b) (h0 : w0.heap.size ≤ g) (u : Value) : Rp w0 b (W.setCell ⟨g, o, none⟩ u) ts d pa why := by
 obtain ⟨h1, h2, h3, h4, h5, h6, h7, tb, off, c, n, i, all, g1, g2, g3, g4, g5, g6⟩ := h
 exact ⟨h1.setCell h0 _, h2, h3, h4, h5, h6, h7, tb, off, c, n, i, all, g1, g2, g3, g4, g5, g6.far1 hg _ _⟩
theorem putX_R {w0 W : World} {b g : Nat} {ts : List Tk} {d pa why : Int} (h : Rp w0 b W ts d pa why) (hg : g ≠ b) (h0 : w0.heap.size ≤ g) (t : T) (lv : Value) : Rp w0 b (putX W g t lv) ts d pa why := by
 unfold putX
 iterate 13 refine Rp.far ?_ hg h0 _
 exact h
def leftR (b : Nat) (w : World) : Nat := match w.cell? ⟨b, 0, none⟩, w.cell? ⟨b, 1, none⟩ with
 | some (.slice _ n _), some (.int _ i) => n - i.toNat
 | _, _ => 0
theorem Rp.left {w0 W : World} {b : Nat} {ts : List Tk} {d pa why : Int} (h : Rp w0 b W ts d pa why) : leftR b W = ts.length := by
 obtain ⟨h1, h2, h3, h4, h5, h6, h7, tb, off, c, n, i, all, g1, g2, g3, g4, g5, g6⟩ := h
 unfold leftR
 rw [g6.2.1.1, g6.2.1.2.1, ← g5, List.length_drop, g2]
 simp
theorem Rp.lt {w0 W : World} {b : Nat} {ts : List Tk} {d pa why : Int} (h : Rp w0 b W ts d pa why) : b < W.heap.size ∧ w0.heap.size ≤ b := by
 obtain ⟨h1, h2, h3, h4, h5, h6, h7, tb, off, c, n, i, all, g1, g2, g3, g4, g5, g6⟩ := h
 exact ⟨g6.1, h2⟩
/-- The end of a function whose result is a tree. -/
theorem endR {fn : Func} {a : Act} {W : World} {g : Nat} {t : T} {lv : Value} {Q : Ending → World → Prop} (B : BlkX W g t lv) (hd : a.defers = []) (hQ : Q (.returned (aggX t lv)) W)
   (hr : W.cell? ⟨g, 0, none⟩ = some (.int .i64 t.k) → W.cell? ⟨g, 1, none⟩ = some (.int .i64 t.n) → W.cell? ⟨g, 2, none⟩ = some (.string (bs t.s)) → W.cell? ⟨g, 3, none⟩ = some (.int .i64 t.e) → W.cell? ⟨g, 4, none⟩ = some (.int .i64 t.r.1) → W.cell? ⟨g, 5, none⟩ = some (.int .i64 t.r.2.1) → W.cell? ⟨g, 6, none⟩ = some (.bool t.r.2.2.1) → W.cell? ⟨g, 7, none⟩ = some (.bool t.r.2.2.2) → W.cell? ⟨g, 8, none⟩ = some (.int .i64 t.q.1) → W.cell? ⟨g, 9, none⟩ = some (.int .i64 t.q.2.1) → W.cell? ⟨g, 10, none⟩ = some (.bool t.q.2.2.1) → W.cell? ⟨g, 11, none⟩ = some (.bool t.q.2.2.2) → W.cell? ⟨g, 12, none⟩ = some lv → (results fn a.tmps).run Try.prog W = .ok (aggX t lv) W) :
   bodyPost Try.prog fn Q .ret a W := by
 obtain ⟨z, ⟨k0, k1, k2, k3, k4, k5, k6, k7, k8, k9, k10, k11, k12⟩, f⟩ := B
 exact bodyPost_ret (hr k0 k1 k2 k3 k4 k5 k6 k7 k8 k9 k10 k11 k12) hd hQ
def RY (w0 : World) (b : Nat) (W : World) (L : Nat) (lo d : Int) (r : Rs) (x : T) (lv : Value) (w' : World) : Prop :=
 ExtB b W w' ∧ ((∃ ts pa, r = .ok (x, ts) ∧ IsL w' (W.heap.size ≤ ·) lv x.l ∧ Rp w0 b w' ts d pa 0) ∨ (∃ f ts d' pa why, r = .error f ∧ lo ≤ d' ∧ d' ≤ d ∧ why ≠ 0 ∧ ts.length ≤ L ∧ Rp w0 b w' ts d' pa why))
theorem RX.form {w0 W w' : World} {b L : Nat} {lo d : Int} {r : Rs} {e : Ending} (h : RX w0 b W L lo d r e w') : ∃ x p l c, e = .returned (aggX x (.slice p l c)) ∧ RY w0 b W L lo d r x (.slice p l c) w' := by
 rcases h.cases with ⟨f, x, p, l, c, ts1, d', pa1, why, hr, he, q1, q2, q3, q4, R1, X1⟩ | ⟨x, ts1, p, l, c, pa1, hr, he, hL, R1, X1⟩
 · exact ⟨x, p, l, c, he, X1, .inr ⟨f, ts1, d', pa1, why, hr, q1, q2, q3, q4, R1⟩⟩
 · exact ⟨x, p, l, c, he, X1, .inl ⟨ts1, pa1, hr, hL, R1⟩⟩
theorem RY.back {w0 W w' : World} {b L : Nat} {lo d : Int} {r : Rs} {x : T} {p : Option Addr} {l c : Nat} (h : RY w0 b W L lo d r x (.slice p l c) w') : RX w0 b W L lo d r (.returned (aggX x (.slice p l c))) w' := by
 obtain ⟨h1, ⟨ts, pa, rfl, hL, hR⟩ | ⟨f, ts, d', pa, why, rfl, q1, q2, q3, q4, q5⟩⟩ := h
 · exact ⟨h1, ⟨_, rfl, hL⟩, pa, hR⟩
 · exact ⟨h1, ⟨x, p, l, c, rfl⟩, ts, d', pa, why, q1, q2, q3, q4, q5⟩
/-- Put into the block of the result. -/
theorem RY.put {w0 W V w' : World} {b L L' : Nat} {lo d : Int} {r : Rs} {x : T} {lv : Value} (h : RY w0 b V L lo d r x lv w') (hV : ExtB b W V) (hs : W.heap.size < V.heap.size) (hg : W.heap.size ≠ b) (h0 : w0.heap.size ≤ W.heap.size) (hL : L ≤ L') :
   RY w0 b W L' lo d r x lv (putX w' W.heap.size x lv) := by
 obtain ⟨h1, h2⟩ := h
 refine ⟨putX_B (hV.trans h1) (Nat.le_refl _) x lv, ?_⟩
 rcases h2 with ⟨ts, pa, hr, hl, hR⟩ | ⟨f, ts, d', pa, why, hr, q1, q2, q3, q4, q5⟩
 · exact .inl ⟨ts, pa, hr, hl.keep (by rw [putX_size]; exact Nat.le_refl _) (fun j hj hs => putX_heap _ _ _ _ _ (by omega)) (fun j hj _ => by omega), putX_R hR hg h0 _ _⟩
 · exact .inr ⟨f, ts, d', pa, why, hr, q1, q2, q3, by omega, putX_R q5 hg h0 _ _⟩
theorem Rp.deep {w0 W : World} {b : Nat} {ts : List Tk} {d pa why : Int} (h : Rp w0 b W ts d pa why) (hd9 : -900 ≤ d) : Rp w0 b (W.setCell ⟨b, 2, none⟩ (.int .i64 (d - 1))) ts (d - 1) pa why := by
 obtain ⟨h1, h2, h3, h4, h5, h6, h7, tb, off, c, n, i, all, g1, g2, g3, g4, g5, g6⟩ := h
 exact ⟨h1.setCell h2 _, h2, h3, h4, h5, by omega, by omega, tb, off, c, n, i, all, g1, g2, g3, g4, g5, g6.put2 _⟩
theorem Blk5.extB {b g : Nat} {w w' : World} {x0 x1 x2 x3 x4 : Value} (h : Blk5 w g x0 x1 x2 x3 x4) (e : ExtB b w w') (hg : g ≠ b) : Blk5 w' g x0 x1 x2 x3 x4 := by
 obtain ⟨h1, ⟨a0, a1, a2, a3, a4⟩, f0, f1, f2, f3, f4⟩ := h
 exact ⟨Nat.lt_of_lt_of_le h1 e.size, ⟨(e.cell h1 hg 0).1.trans a0, (e.cell h1 hg 1).1.trans a1, (e.cell h1 hg 2).1.trans a2, (e.cell h1 hg 3).1.trans a3, (e.cell h1 hg 4).1.trans a4⟩, (e.cell h1 hg 0).2.trans f0, (e.cell h1 hg 1).2.trans f1, (e.cell h1 hg 2).2.trans f2, (e.cell h1 hg 3).2.trans f3, (e.cell h1 hg 4).2.trans f4⟩
def PfC (w0 : World) (b n : Nat) : Prop := ∀ (W : World) (ts : List Tk) (d : Nat) (pa : Int), Rp w0 b W ts d pa 0 → ts.length ≤ n → d ≤ 40 → Calls Try.prog 93 #[.pointer (some ⟨b, 0, none⟩)] W (RX w0 b W ts.length (d - 1) d (O n d ts))
def ExC (w0 : World) (b n m : Nat) : Prop := ∀ (W : World) (ts : List Tk) (d : Nat) (pa : Int) (k : Nat), Rp w0 b W ts d pa 0 → ts.length ≤ m → d ≤ 40 → 1 ≤ k → k ≤ 5 → Calls Try.prog 62 #[.pointer (some ⟨b, 0, none⟩), .int .i64 (k : Int)] W (RX w0 b W ts.length (d - 1) d (LvK (O n) k d ts))
set_option maxRecDepth 100000 in
theorem exp_core (w0 : World) (b n m L dn k : Nat) (lo d : Int) (W : World) (r0 R : Rs) (hW0 : w0.heap.size ≤ W.heap.size) (hbW : b < W.heap.size) (hL : L ≤ m) (hm : m ≤ n) (hk5 : 1 ≤ k ∧ k ≤ 5)
   (c1 : ∀ V, Ext W V → Calls Try.prog 93 #[.pointer (some ⟨b, 0, none⟩)] V (RX w0 b V L lo d r0)) (hE : ∀ f, r0 = .error f → ∃ f, R = .error f)
   (hO : ∀ x ts1, r0 = .ok (x, ts1) → d = (dn : Int) ∧ dn ≤ 40 ∧ ts1.length ≤ L ∧ R = cl (O n) dn ts1.length k x ts1) (ih : (∃ a, r0 = .ok a) → lo ≤ d - 1 ∧ ∀ m', m' < m → ExC w0 b n m') :
   Calls Try.prog 62 #[.pointer (some ⟨b, 0, none⟩), .int .i64 (k : Int)] W (RX w0 b W L lo d R) := by
 have HN : Hid (L ≤ m ∧ m ≤ n ∧ 1 ≤ k ∧ k ≤ 5) := ⟨hL, hm, hk5⟩
 have HIH : Hid ((∃ a, r0 = .ok a) → lo ≤ d - 1 ∧ ∀ m', m' < m → ExC w0 b n m') := ih
 have HC1 : Hid (∀ V, Ext W V → Calls Try.prog 93 #[.pointer (some ⟨b, 0, none⟩)] V (RX w0 b V L lo d r0)) := c1
 have hgW : W.heap.size ≠ b := by omega
 have HW0 : Hid (w0.heap.size ≤ W.heap.size) := hW0
 have HER : Hid (∀ f, r0 = .error f → ∃ f, R = .error f) := hE
 have HOR : Hid (∀ x ts1, r0 = .ok (x, ts1) → d = (dn : Int) ∧ dn ≤ 40 ∧ ts1.length ≤ L ∧ R = cl (O n) dn ts1.length k x ts1) := hO
 have hk4 : k ≤ 5 := hk5.2
 clear hL hm hk5 ih c1 hE hO hW0
 go_enter Try.func62, Try.ntmps62
 go_wp2_with fail
 refine (HC1.out _ ((Ext.refl _).alloc _)).mono ?_
 intro e w1 h1
 obtain ⟨x, p, l, c, rfl, HJ⟩ : ∃ x p l c, e = .returned (aggX x (.slice p l c)) ∧ Hid (∃ us d' pa why, Rp w0 b w1 us d' pa why ∧ us.length ≤ L ∧ ((why = 0 ∧ d' = (dn : Int) ∧ d = (dn : Int) ∧ (dn ≤ 40 ∧ ∃ a, r0 = .ok a) ∧ IsL w1 (fun j => W.heap.size + 1 ≤ j ∧ j ≠ w1.heap.size) (.slice p l c) x.l ∧ R = cl (O n) dn us.length k x us) ∨ (why ≠ 0 ∧ lo ≤ d' ∧ d' ≤ d ∧ ∃ f, R = .error f))) := by
   rcases h1.cases with ⟨f, x, p, l, c, ts1, d', pa1, why, hr, he, q1, q2, q3, q4, R1, X1⟩ | ⟨x, ts1, p, l, c, pa1, hr, he, hL, R1, X1⟩
   · exact ⟨x, p, l, c, he, ts1, d', pa1, why, R1, q4, .inr ⟨q3, q1, q2, HER.out f hr⟩⟩
   · obtain ⟨o1, o2, o3, o4⟩ := HOR.out x ts1 hr
     exact ⟨x, p, l, c, he, ts1, d, pa1, 0, R1, o3, .inl ⟨rfl, o1, o1, ⟨o2, _, hr⟩, hL.mono (fun j hj hs => ⟨by simp at hj; exact hj, by omega⟩), o4⟩⟩
 have X1 := h1.1
 have hw1 : W.heap.size + 1 ≤ w1.heap.size := by have := X1.size; simp at this; omega
 have HB : Hid (BlkX w1 W.heap.size tz (.slice none 0 0) ∧ ExtB b W w1 ∧ W.heap.size + 1 ≤ w1.heap.size) := ⟨(BlkX.top rfl (Ext.refl _)).extB X1 hgW, ((ExtB.refl b W).alloc _).trans X1, hw1⟩
 have hg1 : w1.heap.size ≠ b := by omega
 clear h1 X1 HC1 HER HOR
 unfold aggX
 go_wp2_with fail
 go_loopw [6] (fun _ wr => ∃ x p l c us d' pa why, BlkX wr w1.heap.size x (.slice p l c) ∧ BlkX wr W.heap.size tz (.slice none 0 0) ∧ ExtB b W wr ∧ Rp w0 b wr us d' pa why ∧ us.length ≤ L ∧ ((why = 0 ∧ d' = (dn : Int) ∧ d = (dn : Int) ∧ (dn ≤ 40 ∧ ∃ a, r0 = .ok a) ∧ IsL wr (fun j => W.heap.size + 1 ≤ j ∧ j ≠ w1.heap.size) (.slice p l c) x.l ∧ R = cl (O n) dn us.length k x us) ∨ (why ≠ 0 ∧ lo ≤ d' ∧ d' ≤ d ∧ ∃ f, R = .error f))) (fun _ wr => leftR b wr)
 case atStart =>
   obtain ⟨us, d', pa, why, j1, j2, j3⟩ := HJ.out
   refine ⟨x, p, l, c, us, d', pa, why, blk13_top rfl (Ext.refl _), HB.out.1.ext ((Ext.refl _).alloc _), HB.out.2.1.alloc _, j1.ext ((Ext.refl _).alloc _), j2, ?_⟩
   rcases j3 with ⟨a1, a2, a6, a3, a4, a5⟩ | j3
   · exact .inl ⟨a1, a2, a6, a3, a4.ext ((Ext.refl _).alloc _), a5⟩
   · exact .inr j3
 case round =>
   clear HJ
   obtain ⟨x, p, l, c, us, d', pa, why, i1, i2, i3, i4, i5, i6⟩ := hrel
   have HO : Hid (BlkX wr w1.heap.size x (.slice p l c) ∧ BlkX wr W.heap.size tz (.slice none 0 0) ∧ ExtB b W wr) := ⟨i1, i2, i3⟩
   have HRp : Hid (Rp w0 b wr us d' pa why) := i4
   have HU : Hid (us.length ≤ L) := i5
   have hwz : w1.heap.size < wr.heap.size := i1.1
   rcases i6 with ⟨rfl, rfl, hdd, hdn, iL, hRc⟩ | ⟨hne, i6⟩
   · have HD : Hid (dn ≤ 40 ∧ ∃ a, r0 = .ok a) := hdn
     have HDD : Hid (d = (dn : Int)) := hdd
     have HLx : Hid (IsL wr (fun j => W.heap.size + 1 ≤ j ∧ j ≠ w1.heap.size) (.slice p l c) x.l) := iL
     have HRC : Hid (R = cl (O n) dn us.length k x us) := hRc
     have cS := fun V e => rsign_any (HRp.out.ext (W' := V) e)
     obtain ⟨sg, hsg⟩ : ∃ sg, sgn us 0 = sg := ⟨_, rfl⟩
     rw [hsg] at cS
     have HSG : Hid (sgn us 0 = sg) := hsg
     have cB := fun W => rpower_any (bs sg) W
     have es : (bs sg).data.toList = sg := rfl
     rw [es] at cB
     obtain ⟨bb, hbb⟩ : ∃ bb, bnd sg = bb := ⟨_, rfl⟩
     rw [hbb] at cB
     have HBB : Hid (bnd sg = bb) := hbb
     have hb4 : bb ≤ 4 := by rw [← hbb]; exact bnd_le4 sg
     obtain ⟨g0, g1, g2, g3, g4, g5, g6, tb, off, cc, nn, ii, all, u1, u2, u3, u4, u5, u6⟩ := i4
     obtain ⟨hz, ⟨b0, b1, b2, b3, b4⟩, f0, f1, f2, f3, f4⟩ := u6
     clear i1 i2 i3 i5 iL hRc hdn hdd es hsg hbb g0 g1 g2 g3 g4 g5 g6 u1 u2 u3 u4 u5
     by_cases hbk : (k : Int) ≤ (bb : Int)
     · have HC3 : Hid ((hd us).1 = 3 ∧ (hd us).2.2.1 = sg ∧ k ≤ bnd sg) := by
         have e1 := HSG.out
         have e2 := HBB.out
         have e3 := HN.out.2.2.1
         unfold sgn at e1
         split at e1
         · rename_i h; exact ⟨h.2, e1, by omega⟩
         · subst e1; exact absurd e2 (by show ¬ bnd [] = bb; have : bnd [] = 0 := rfl; omega)
       have HT : Hid (Nz us.tail ∧ us.tail.length + 1 = us.length) := tail_sh HRp.out.2.2.1 HC3.out.1
       have HNX : Hid (nx us = us.tail) := nx_tail HRp.out.2.2.1 (by rw [HC3.out.1]; decide)
       go_wp2_with fail
       refine (cS _ (Ext.refl _)).mono ?_
       rintro e wa ⟨rfl, Ea⟩
       have HEa : Hid (Ext wr wa) := Ea
       clear Ea b0 b1 b2 b3 b4 f0 f1 f2 f3 f4 hz
       go_wp2_with fail
       refine (cB _).mono ?_
       rintro e wb ⟨rfl, rfl⟩
       go_wp2_with fail
       refine (cS _ HEa.out).mono ?_
       rintro e w2 ⟨rfl, E2⟩
       have HE2 : Hid (Ext wr w2) := HEa.out.trans E2
       clear E2 HEa
       go_wp2_with fail
       refine (rnext_any (HRp.out.ext HE2.out)).mono ?_
       rintro e w3 ⟨rfl, R3, X3⟩
       have H3 : Hid (Rp w0 b w3 us.tail dn pa 0 ∧ ExtB b wr w3) := ⟨HNX.out ▸ R3, (HE2.out.toB b).trans X3⟩
       clear R3 X3 HE2
       go_wp2_with fail
       refine (cB _).mono ?_
       rintro e w3 ⟨rfl, rfl⟩
       go_wp2_with fail
       refine ((HIH.out HD.out.2).2 us.tail.length (by have := HT.out.2; have := HU.out; have := HN.out.1; omega) w3 us.tail dn pa (bb + 1) H3.out.1 (Nat.le_refl _) HD.out.1 (by omega) (by omega)).mono ?_
       intro e w4 h4
       obtain ⟨y, p2, l2, c2, rfl, H4⟩ : ∃ y p2 l2 c2, e = .returned (aggX y (.slice p2 l2 c2)) ∧ Hid (ExtB b wr w4 ∧ ∃ us2 d' pa why, Rp w0 b w4 us2 d' pa why ∧ us2.length < us.length ∧ ((why = 0 ∧ d' = (dn : Int) ∧ IsL w4 (w3.heap.size ≤ ·) (.slice p2 l2 c2) y.l ∧ R = cl (O n) dn us2.length k (tBin sg x y) us2) ∨ (why ≠ 0 ∧ (dn : Int) - 1 ≤ d' ∧ d' ≤ dn ∧ ∃ f, R = .error f))) := by
         have t2 := HT.out.2
         have hRC := HRC.out
         obtain ⟨g, hg⟩ : ∃ g, us.length = g + 1 := ⟨us.length - 1, by omega⟩
         rw [hg, cl, if_pos ⟨HC3.out.1, by rw [HC3.out.2.1]; exact HC3.out.2.2⟩, HC3.out.2.1, HBB.out] at hRC
         rcases h4.cases with ⟨f, y, p2, l2, c2, ts1, d', pa1, why, hr, he, q1, q2, q3, q4, R1, X1⟩ | ⟨y, ts1, p2, l2, c2, pa1, hr, he, hL, R1, X1⟩
         · exact ⟨y, p2, l2, c2, he, H3.out.2.trans X1, ts1, d', pa1, why, R1, by omega, .inr ⟨q3, q1, q2, f, by rw [hRC, hr]⟩⟩
         · have n1 := HN.out
           have n2 := HU.out
           have s2 := LvK_sh (O_sh n) _ dn us.tail HT.out.1 (by omega) y ts1 hr
           have s3 := s2.2
           refine ⟨y, p2, l2, c2, he, H3.out.2.trans X1, ts1, dn, pa1, 0, R1, by omega, .inl ⟨rfl, rfl, hL, ?_⟩⟩
           rw [hRC, hr]
           exact cl_fuel (O_sh n) k dn g ts1.length _ ts1 s2.1 (by omega) (by omega) (Nat.le_refl _)
       have X4 := H4.out.1
       have HO4 : Hid (BlkX w4 w1.heap.size x (.slice p l c) ∧ BlkX w4 W.heap.size tz (.slice none 0 0) ∧ ExtB b W w4 ∧ IsL w4 (fun j => W.heap.size + 1 ≤ j ∧ j ≠ w1.heap.size) (.slice p l c) x.l ∧ w1.heap.size < w4.heap.size) := ⟨HO.out.1.extB X4 hg1, HO.out.2.1.extB X4 hgW, HO.out.2.2.trans X4, HLx.out.extB X4 (fun j hj => by omega), by have := X4.size; omega⟩
       have hz4 : w1.heap.size < w4.heap.size := HO4.out.2.2.2.2
       have hz3 : wr.heap.size ≤ w3.heap.size := H3.out.2.size
       clear h4 X4
       have HB0 := HO4.out.1
       obtain ⟨qa, ⟨la0, la1, la2, la3, la4, la5, la6, la7, la8, la9, la10, la11, la12⟩, ga0, ga1, ga2, ga3, ga4, ga5, ga6, ga7, ga8, ga9, ga10, ga11, ga12⟩ := HB0
       unfold aggX
       go_wp2_with fail
       clear la0 la1 la2 la3 la4 la5 la6 la7 la8 la9 la10 la11 la12 ga0 ga1 ga2 ga3 ga4 ga5 ga6 ga7 ga8 ga9 ga10 ga11 ga12 qa cS cB
       show (fun V => (∃ x p l c us d' pa why, BlkX V w1.heap.size x (.slice p l c) ∧ BlkX V W.heap.size tz (.slice none 0 0) ∧ ExtB b W V ∧ Rp w0 b V us d' pa why ∧ us.length ≤ L ∧ ((why = 0 ∧ d' = (dn : Int) ∧ d = (dn : Int) ∧ (dn ≤ 40 ∧ ∃ a, r0 = .ok a) ∧ IsL V (fun j => W.heap.size + 1 ≤ j ∧ j ≠ w1.heap.size) (.slice p l c) x.l ∧ R = cl (O n) dn us.length k x us) ∨ (why ≠ 0 ∧ lo ≤ d' ∧ d' ≤ d ∧ ∃ f, R = .error f))) ∧ leftR b V < leftR b wr) (((putX w4 w1.heap.size (tBin sg x y) (.slice (some ⟨w4.heap.size + 1, 0, none⟩) 2 2)).alloc (.cells #[.int .i64 y.k, .int .i64 y.n, .string (bs y.s), .int .i64 y.e, .int .i64 y.r.1, .int .i64 y.r.2.1, .bool y.r.2.2.1, .bool y.r.2.2.2, .int .i64 y.q.1, .int .i64 y.q.2.1, .bool y.q.2.2.1, .bool y.q.2.2.2, .slice p2 l2 c2] 26)).alloc (.cells #[.int .i64 x.k, .int .i64 x.n, .string (bs x.s), .int .i64 x.e, .int .i64 x.r.1, .int .i64 x.r.2.1, .bool x.r.2.2.1, .bool x.r.2.2.2, .int .i64 x.q.1, .int .i64 x.q.2.1, .bool x.q.2.2.1, .bool x.q.2.2.2, .slice p l c, .int .i64 y.k, .int .i64 y.n, .string (bs y.s), .int .i64 y.e, .int .i64 y.r.1, .int .i64 y.r.2.1, .bool y.r.2.2.1, .bool y.r.2.2.2, .int .i64 y.q.1, .int .i64 y.q.2.1, .bool y.q.2.2.1, .bool y.q.2.2.2, .slice p2 l2 c2] 26))
       obtain ⟨X4, us2, d2, pa2, why2, R2, hlt, hcase⟩ := H4.out
       obtain ⟨o1, o2, o3, o4, o5⟩ := HO4.out
       have hw0 := HW0.out
       have zs := putX_size w4 w1.heap.size (tBin sg x y) (.slice (some ⟨w4.heap.size + 1, 0, none⟩) 2 2)
       have R6 := putX_R R2 hg1 (by omega) (tBin sg x y) (.slice (some ⟨w4.heap.size + 1, 0, none⟩) 2 2)
       have X6 := putX_B o3 (show W.heap.size ≤ w1.heap.size by omega) (tBin sg x y) (.slice (some ⟨w4.heap.size + 1, 0, none⟩) 2 2)
       have B6 : BlkX (putX w4 w1.heap.size (tBin sg x y) (.slice (some ⟨w4.heap.size + 1, 0, none⟩) 2 2)) W.heap.size tz (.slice none 0 0) := Blk13.far o2 (by omega) _ _ _ _ _ _ _ _ _ _ _ _ _
       have A6 := o1.put (tBin sg x y) (.slice (some ⟨w4.heap.size + 1, 0, none⟩) 2 2)
       have L6 : ∀ v l', IsL w4 (fun j => W.heap.size + 1 ≤ j ∧ j ≠ w1.heap.size) v l' → IsL (putX w4 w1.heap.size (tBin sg x y) (.slice (some ⟨w4.heap.size + 1, 0, none⟩) 2 2)) (fun j => W.heap.size + 1 ≤ j ∧ j ≠ w1.heap.size) v l' := fun v l' hh => hh.keep (by rw [zs]; exact Nat.le_refl _) (fun j hj hs => putX_heap _ _ _ _ _ hj.2) (fun j hj _ => hj)
       have hu := HU.out
       have hm2 : leftR b wr = us.length := HRp.out.left
       generalize putX w4 w1.heap.size (tBin sg x y) (.slice (some ⟨w4.heap.size + 1, 0, none⟩) 2 2) = V6 at zs R6 X6 B6 A6 L6 ⊢
       refine ⟨⟨tBin sg x y, some ⟨w4.heap.size + 1, 0, none⟩, 2, 2, us2, d2, pa2, why2, A6.ext (((Ext.refl _).alloc _).alloc _), B6.ext (((Ext.refl _).alloc _).alloc _), (X6.alloc _).alloc _, R6.ext (((Ext.refl _).alloc _).alloc _), by omega, ?_⟩, ?_⟩
       · rcases hcase with ⟨z1, z2, z3, z4⟩ | ⟨z1, z2, z3, z4⟩
         · have hx := (L6 _ _ o4).ext ((Ext.refl _).alloc (.cells #[.int .i64 y.k, .int .i64 y.n, .string (bs y.s), .int .i64 y.e, .int .i64 y.r.1, .int .i64 y.r.2.1, .bool y.r.2.2.1, .bool y.r.2.2.2, .int .i64 y.q.1, .int .i64 y.q.2.1, .bool y.q.2.2.1, .bool y.q.2.2.2, .slice p2 l2 c2] 26))
           have hy := (L6 _ _ (z3.mono (fun j hj _ => (⟨by omega, by omega⟩ : W.heap.size + 1 ≤ j ∧ j ≠ w1.heap.size)))).ext ((Ext.refl _).alloc (.cells #[.int .i64 y.k, .int .i64 y.n, .string (bs y.s), .int .i64 y.e, .int .i64 y.r.1, .int .i64 y.r.2.1, .bool y.r.2.2.1, .bool y.r.2.2.2, .int .i64 y.q.1, .int .i64 y.q.2.1, .bool y.q.2.2.1, .bool y.q.2.2.2, .slice p2 l2 c2] 26))
           have e : (V6.alloc (.cells #[.int .i64 y.k, .int .i64 y.n, .string (bs y.s), .int .i64 y.e, .int .i64 y.r.1, .int .i64 y.r.2.1, .bool y.r.2.2.1, .bool y.r.2.2.2, .int .i64 y.q.1, .int .i64 y.q.2.1, .bool y.q.2.2.1, .bool y.q.2.2.2, .slice p2 l2 c2] 26)).heap.size = w4.heap.size + 1 := by simp [zs]
           have hxy := IsL.two hx hy ⟨by omega, by omega⟩
           rw [e] at hxy
           exact .inl ⟨z1, z2, HDD.out, HD.out, hxy, z4⟩
         · exact .inr ⟨z1, by have h9 := (HIH.out HD.out.2).1; have h8 := HDD.out; omega, by rw [HDD.out]; exact z3, z4⟩
       · rw [(R6.ext (((Ext.refl _).alloc _).alloc _)).left, hm2]
         exact hlt
     · have HNC : Hid (R = .ok (x, us)) := by
         have hRC := HRC.out
         obtain ⟨g, hg⟩ : ∃ g, us.length = g + 1 := ⟨us.length - 1, by have := HRp.out.2.2.1.pos; omega⟩
         rw [hg, cl, if_neg] at hRC
         · exact hRC
         · rintro ⟨h1, h2⟩
           have e1 := HSG.out
           unfold sgn at e1
           rw [if_pos ⟨rfl, h1⟩] at e1
           rw [e1, HBB.out] at h2
           omega
       go_wp2_with fail
       refine (cS _ (Ext.refl _)).mono ?_
       rintro e wa ⟨rfl, Ea⟩
       have HEa : Hid (Ext wr wa) := Ea
       clear Ea b0 b1 b2 b3 b4 f0 f1 f2 f3 f4 hz
       go_wp2_with fail
       refine (cB _).mono ?_
       rintro e wb ⟨rfl, rfl⟩
       have HO2 : Hid (BlkX wb w1.heap.size x (.slice p l c) ∧ BlkX wb W.heap.size tz (.slice none 0 0) ∧ ExtB b W wb) := ⟨HO.out.1.ext HEa.out, HO.out.2.1.ext HEa.out, HO.out.2.2.trans (HEa.out.toB b)⟩
       have HB0 := HO2.out.1
       obtain ⟨qa, ⟨la0, la1, la2, la3, la4, la5, la6, la7, la8, la9, la10, la11, la12⟩, ga0, ga1, ga2, ga3, ga4, ga5, ga6, ga7, ga8, ga9, ga10, ga11, ga12⟩ := HB0
       have HB00 := HO2.out.2.1
       obtain ⟨qc, ⟨lc0, lc1, lc2, lc3, lc4, lc5, lc6, lc7, lc8, lc9, lc10, lc11, lc12⟩, gc0, gc1, gc2, gc3, gc4, gc5, gc6, gc7, gc8, gc9, gc10, gc11, gc12⟩ := HB00
       go_wp2_with fail
       show bodyPost Try.prog _ _ _ _ (putX wb W.heap.size x (.slice p l c))
       have B6 := HO2.out.2.1.put x (.slice p l c)
       have R6 := putX_R (HRp.out.ext HEa.out) hgW HW0.out x (.slice p l c)
       have X6 := putX_B HO2.out.2.2 (Nat.le_refl _) x (.slice p l c)
       rw [HNC.out]
       refine endR B6 rfl ⟨X6, ⟨_, rfl, ((HLx.out.ext HEa.out).keep (by rw [putX_size]; exact Nat.le_refl _) (fun j hj hs => putX_heap _ _ _ _ _ (by omega)) (fun j hj _ => hj)).mono (fun j hj _ => by omega)⟩, pa, HDD.out ▸ R6⟩ (fun h0 h1 h2 h3 h4 h5 h6 h7 h8 h9 h10 h11 h12 => by simp [results, Try.results62, go_sem, h0, h1, h2, h3, h4, h5, h6, h7, h8, h9, h10, h11, h12, aggX])
   · have HRr : Hid (why ≠ 0 ∧ lo ≤ d' ∧ d' ≤ d ∧ ∃ f, R = .error f) := ⟨hne, i6⟩
     have w0' : (why == 0) = false := by simpa using hne
     obtain ⟨g0, g1, g2, g3, g4, g5, g6, tb, off, cc, nn, ii, all, u1, u2, u3, u4, u5, u6⟩ := i4
     obtain ⟨hz, ⟨b0, b1, b2, b3, b4⟩, f0, f1, f2, f3, f4⟩ := u6
     clear i1 i2 i3 i5 i6 hne g0 g1 g2 g3 g4 g5 g6 u1 u2 u3 u4 u5
     have HB0 := HO.out.1
     obtain ⟨qa, ⟨la0, la1, la2, la3, la4, la5, la6, la7, la8, la9, la10, la11, la12⟩, ga0, ga1, ga2, ga3, ga4, ga5, ga6, ga7, ga8, ga9, ga10, ga11, ga12⟩ := HB0
     have HB00 := HO.out.2.1
     obtain ⟨qc, ⟨lc0, lc1, lc2, lc3, lc4, lc5, lc6, lc7, lc8, lc9, lc10, lc11, lc12⟩, gc0, gc1, gc2, gc3, gc4, gc5, gc6, gc7, gc8, gc9, gc10, gc11, gc12⟩ := HB00
     go_wp2_with fail
     show bodyPost Try.prog _ _ _ _ (putX wr W.heap.size x (.slice p l c))
     have B6 := HO.out.2.1.put x (.slice p l c)
     have R6 := putX_R HRp.out hgW HW0.out x (.slice p l c)
     have X6 := putX_B HO.out.2.2 (Nat.le_refl _) x (.slice p l c)
     obtain ⟨r1, r2, r3, f, hf⟩ := HRr.out
     rw [hf]
     exact endR B6 rfl ⟨X6, ⟨x, p, l, c, rfl⟩, us, d', pa, why, r2, r3, r1, HU.out, R6⟩ (fun h0 h1 h2 h3 h4 h5 h6 h7 h8 h9 h10 h11 h12 => by simp [results, Try.results62, go_sem, h0, h1, h2, h3, h4, h5, h6, h7, h8, h9, h10, h11, h12, aggX])
theorem exp_step (w0 : World) (b n m : Nat) (hm : m ≤ n) (hP : PfC w0 b n) (ih : ∀ m', m' < m → ExC w0 b n m') : ExC w0 b n m := by
 intro W ts d pa k h hts hd hk1 hk5
 have hCl := clm_all (O_sh n) hd k hk1 hk5 ts h.2.2.1 (by omega)
 refine exp_core w0 b n m ts.length d k ((d : Int) - 1) d W (O n d ts) (LvK (O n) k d ts) h.1.sz h.lt.1 hts hm ⟨hk1, hk5⟩ (fun V e => hP V ts d pa (h.ext e) (by omega) hd) ?_ ?_ (fun _ => ⟨Int.le_refl _, ih⟩)
 · intro f hr
   exact ⟨f, by rw [hCl, hr]; rfl⟩
 · intro x ts1 hr
   have s2 := O_sh n d ts h.2.2.1 (by omega) x ts1 hr
   have s3 := s2.2
   exact ⟨rfl, hd, by omega, by rw [hCl, hr]; rfl⟩
/-- Whatever the power, what prefix does tells what exp does. -/
theorem exp_all (w0 : World) (b n : Nat) (hP : PfC w0 b n) : ∀ m, m ≤ n → ExC w0 b n m := by
 intro m
 induction m using Nat.strongRecOn with
 | ind m ih => exact fun hm => exp_step w0 b n m hm hP (fun m' h => ih m' h (by omega))
/-- In a bad state it reads nothing. -/
def PfB (w0 : World) (b : Nat) : Prop := ∀ (W : World) (ts : List Tk) (d pa why : Int), Rp w0 b W ts d pa why → why ≠ 0 → Calls Try.prog 93 #[.pointer (some ⟨b, 0, none⟩)] W (RX w0 b W ts.length d d (.error (ft ts true)))
theorem exp_bad (w0 : World) (b : Nat) (hP : PfB w0 b) (W : World) (ts : List Tk) (d pa why : Int) (h : Rp w0 b W ts d pa why) (hw : why ≠ 0) : Calls Try.prog 62 #[.pointer (some ⟨b, 0, none⟩), .int .i64 1] W (RX w0 b W ts.length d d (.error (ft ts true))) :=
 exp_core w0 b ts.length ts.length ts.length 0 1 d d W (.error (ft ts true)) (.error (ft ts true)) h.1.sz h.lt.1 (Nat.le_refl _) (Nat.le_refl _) ⟨by omega, by omega⟩ (fun V e => hP V ts d pa why (h.ext e) hw) (fun f _ => ⟨_, rfl⟩) (fun x ts1 hr => by cases hr) (fun ⟨a, ha⟩ => by cases ha)

open Go

section
variable {P : Program} {ops : Array Oper} {Q : Exit → Act → World → Prop} {md : Region.Mode} {B : Nat → Bool} {S : World → Prop}

/-- Whichever order is picked from here on; S holds behind each operation that is not of the bar. -/
def wpBar (P : Program) (md : Region.Mode) (ops : Array Oper) (Q : Exit → Act → World → Prop) (B : Nat → Bool) (S : World → Prop) : Nat → Array Bool → Act → World → Prop
 | 0, l, a, w => Region.ready md ops l = [] ∧ Q .normal a w
 | n + 1, l, a, w => (Region.ready md ops l = [] → Q .normal a w) ∧ ∀ i ∈ Region.ready md ops l, wpOp P ops Q i (fun x v => (B i = false → S v) ∧ wpBar P md ops Q B S n (l.setIfInBounds i true) x v) a w
theorem any_of_bar : ∀ (n : Nat) (l : Array Bool) (a : Act) (w : World), wpBar P md ops Q B S n l a w → wpAny P md ops Q n l a w
 | 0, _, _, _, h => h
 | n + 1, _, _, _, h => ⟨h.1, fun i hi => wpOp_mono (fun x v k => any_of_bar n _ x v k.2) (h.2 i hi)⟩
/-- The bar waits for operation i, by itself or by one that has not come up and waits for i. -/
def Waits (md : Region.Mode) (ops : Array Oper) (B : Nat → Bool) (i : Nat) (l : Array Bool) : Prop :=
 ∀ j o, ops[j]? = some o → B j = true → ∃ e ∈ o.after, Region.binds md e = true ∧ (e.on = i ∨ (l.getD e.on true = false ∧ ∃ k, ops[e.on]? = some k ∧ ∃ e' ∈ k.after, Region.binds md e' = true ∧ e'.on = i))
def waitsB (md : Region.Mode) (ops : Array Oper) (B : Nat → Bool) (i : Nat) (l : Array Bool) : Bool :=
 (List.range ops.size).all fun j => !B j || (match ops[j]? with
   | none => true
   | some o => o.after.any fun e => Region.binds md e && (e.on == i || (!l.getD e.on true && (match ops[e.on]? with
     | none => false
     | some k => k.after.any fun e' => Region.binds md e' && e'.on == i))))
theorem waits_of {i : Nat} {l : Array Bool} (h : waitsB md ops B i l = true) : Waits md ops B i l := by
 intro j o ho hb
 have hj : j < ops.size := by
   rcases Nat.lt_or_ge j ops.size with h' | h'
   · exact h'
   · rw [Array.getElem?_eq_none h'] at ho; cases ho
 have h1 := List.all_eq_true.1 h j (List.mem_range.2 hj)
 rw [hb, ho] at h1
 simp only [Bool.not_true, Bool.false_or] at h1
 obtain ⟨e, he, h2⟩ := Array.any_eq_true'.1 h1
 simp only [Bool.and_eq_true, Bool.or_eq_true, beq_iff_eq, Bool.not_eq_true'] at h2
 refine ⟨e, he, h2.1, ?_⟩
 rcases h2.2 with h3 | ⟨h3, h4⟩
 · exact .inl h3
 · cases hk : ops[e.on]? with
   | none => rw [hk] at h4; cases h4
   | some k =>
     rw [hk] at h4
     obtain ⟨e', he', h5⟩ := Array.any_eq_true'.1 h4
     simp only [Bool.and_eq_true, beq_iff_eq] at h5
     exact .inr ⟨h3, k, rfl, e', he', h5.1, h5.2⟩
theorem lst {l : Array Bool} {k : Nat} (h : l.getD k false = true) : ¬ l.getD k true = false := by
 rcases Nat.lt_or_ge k l.size with h' | h'
 · simp [h'] at h ⊢; exact h
 · simp [Array.getElem?_eq_none h'] at h
/-- What is ready beside i is not of the bar; and the bar waits for i still when it has come up. -/
theorem bar_no {i j : Nat} {l : Array Bool} (hW : Waits md ops B i l) (hi : i ∈ Region.ready md ops l) (hj : j ∈ Region.ready md ops l) : B j = false := by
 obtain ⟨_, o, ho, hall⟩ := mem_ready.1 hj
 have hu := (mem_ready.1 hi).1
 cases hb : B j
 · rfl
 · obtain ⟨e, he, hbe, h | ⟨h, _⟩⟩ := hW j o ho hb
   · exact absurd hu (lst (by rw [← h]; exact hall e he hbe))
   · exact absurd h (lst (hall e he hbe))
theorem Waits.step {i j : Nat} {l : Array Bool} (hW : Waits md ops B i l) (hi : i ∈ Region.ready md ops l) (hj : j ∈ Region.ready md ops l) : Waits md ops B i (l.setIfInBounds j true) := by
 intro k o ho hb
 obtain ⟨_, oj, hoj, hall⟩ := mem_ready.1 hj
 have hu := (mem_ready.1 hi).1
 obtain ⟨e, he, hbe, h | ⟨h, m, hm, e', he', hb', h'⟩⟩ := hW k o ho hb
 · exact ⟨e, he, hbe, .inl h⟩
 · refine ⟨e, he, hbe, .inr ⟨?_, m, hm, e', he', hb', h'⟩⟩
   have hne : j ≠ e.on := by
     intro hje
     rw [← hje, hoj] at hm
     obtain rfl := Option.some.inj hm
     exact absurd hu (lst (by rw [← h']; exact hall e' he' hb'))
   rw [getD_set_ne true hne]; exact h
theorem bar_first {i : Nat} {oi : Oper} {v : Value} (hi : ops[i]? = some oi) (hsel : ∀ (j : Nat) (o : Oper) cs b, ops[j]? = some o → o.op ≠ .select cs b)
   (hQ : ∀ c a w, Q (.panic c) (a.put oi.dst v) w → Q (.panic c) a w) : ∀ (n : Nat) (l : Array Bool) (a : Act) (w : World),
     (∀ j oj, ops[j]? = some oj → j ≠ i → l.getD j true = false → (∀ e ∈ oj.after, Region.binds md e = true → e.on ≠ i) → oi.apart ops oj = true) →
     Waits md ops B i l → i ∈ Region.ready md ops l → YieldsIf P ops S oi v a → S w →
     wpBar P md ops Q B S n (l.setIfInBounds i true) (a.put oi.dst v) w → wpBar P md ops Q B S (n + 1) l a w := by
 intro n
 induction n with
 | zero =>
   intro l a w _ _ hr hy hS H
   refine ⟨fun h => (by rw [h] at hr; cases hr), fun j hj => ?_⟩
   by_cases hji : j = i
   · subst hji; exact hy.wpOp hi hS ⟨fun _ => hS, H⟩
   · have := ready_mono hj hji
     rw [H.1] at this
     cases this
 | succ n ih =>
   intro l a w hfree hW hr hy hS H
   refine ⟨fun h => (by rw [h] at hr; cases hr), fun j hj => ?_⟩
   by_cases hji : j = i
   · subst hji; exact hy.wpOp hi hS ⟨fun _ => hS, H⟩
   · have hB := bar_no hW hr hj
     obtain ⟨hun, oj, hoj, hall⟩ := mem_ready.1 hj
     have hno : ∀ e ∈ oj.after, Region.binds md e = true → e.on ≠ i := fun e he hb heq => absurd (mem_ready.1 hr).1 (lst (by rw [← heq]; exact hall e he hb))
     have step := wpOp_putIf hoj (hfree j oj hoj hji hun hno) (fun cs b => hsel i oi cs b hi) (fun cs b => hsel j oj cs b hoj) hQ hy (H.2 j (ready_mono hj hji))
     refine wpOp_mono (fun x u k => ?_) step
     have hSu := k.2.1 hB
     refine ⟨fun _ => hSu, ih _ x u (fun m om hm hmi hmun hmno => hfree m om hm hmi ?_ hmno) (hW.step hr hj) (ready_mono hr (Ne.symm hji)) k.1 hSu ?_⟩
     · by_cases hjm : j = m
       · subst hjm; exact hun
       · rw [getD_set_ne true hjm] at hmun; exact hmun
     · rw [Array.setIfInBounds_comm _ _ hji]; exact k.2.2
/-! ### The moves -/
theorem bar_take {i : Nat} {oi : Oper} {v : Value} {n : Nat} {l : Array Bool} {a : Act} {w : World} (hi : ops[i]? = some oi) (hs : Region.noSelect ops = true) (hf : Region.free md ops l i = true)
   (hr : (Region.ready md ops l).contains i = true) (hw : waitsB md ops B i l = true) (hQ : ∀ c a w, Q (.panic c) (a.put oi.dst v) w → Q (.panic c) a w) (hy : YieldsIf P ops S oi v a) (hS : S w)
   (h : wpBar P md ops Q B S n (l.setIfInBounds i true) (a.put oi.dst v) w) : wpBar P md ops Q B S (n + 1) l a w :=
 bar_first hi (Region.noSelect_spec hs) hQ n l a w (Region.free_spec hi hf) (waits_of hw) (by simpa using hr) hy hS h
theorem bar_one {i : Nat} {o : Oper} {n : Nat} {l : Array Bool} {a : Act} {w : World} (hr : Region.ready md ops l = [i]) (ho : ops[i]? = some o)
   (h : ∀ K : Act → World → Prop, Shut (∀ a w, (B i = false → S w) → wpBar P md ops Q B S n (l.setIfInBounds i true) a w → K a w) → if Region.wanted o (yielded ops a.tmps) = true then Oper.wp P o a w K Q else K (a.put o.dst undef) w) :
   wpBar P md ops Q B S (n + 1) l a w := by
 refine ⟨fun h0 => (by rw [hr] at h0; cases h0), fun j hj => ?_⟩
 rw [hr] at hj
 obtain rfl : j = i := by simpa using hj
 exact wpOp_step ho fun K hK => h K fun a w hS hW => hK a w ⟨hS, hW⟩
theorem bar_done {l : Array Bool} {a : Act} {w : World} (hr : Region.ready md ops l = []) (h : Q .normal a w) : ∀ n, wpBar P md ops Q B S n l a w
 | 0 => ⟨hr, h⟩
 | _ + 1 => ⟨fun _ => h, by rw [hr]; simp⟩
theorem bar_begin {id : Nat} {a : Act} {w : World} (hm : P.follows .mixedOrders = true) (h : wpBar P .any ops Q B S ops.size (Array.replicate ops.size false) a w.drew) : (Code.region id ops true).wp P Q a w :=
 wp_region_any hm (any_of_bar _ _ _ _ h)
end

open Go.RowKit
set_option maxHeartbeats 6000000

set_option maxRecDepth 100000 in
theorem hasParts_any (t : T) (lv : Value) (W : World) : Calls Try.prog 71 #[.agg #[.int .i64 t.k, .int .i64 t.n, .string (bs t.s), .int .i64 t.e, .int .i64 t.r.1, .int .i64 t.r.2.1, .bool t.r.2.2.1, .bool t.r.2.2.2, .int .i64 t.q.1, .int .i64 t.q.2.1, .bool t.q.2.2.1, .bool t.q.2.2.2, lv]] W fun e w' => e = .returned (.bool (prB t.k)) ∧ Ext W w' := by
 by_cases k6 : t.k = 6
 · have e6 : (t.k == 6) = true := by rw [k6]; rfl
   have HX : Hid (prB t.k = true) := by show _ = _; unfold prB; rw [k6]; rfl
   clear k6
   go_enter Try.func71, Try.ntmps71
   go_wp2_with fail
   go_ret
   exact ⟨ret_bool HX.out.symm, (Ext.refl _).alloc _⟩
 by_cases k7 : t.k = 7
 · have e6 : (t.k == 6) = false := by simpa using k6
   have e7 : (t.k == 7) = true := by rw [k7]; rfl
   have HX : Hid (prB t.k = true) := by show _ = _; unfold prB; rw [k7]; rfl
   clear k6 k7
   go_enter Try.func71, Try.ntmps71
   go_wp2_with fail
   go_ret
   exact ⟨ret_bool HX.out.symm, (Ext.refl _).alloc _⟩
 · have e6 : (t.k == 6) = false := by simpa using k6
   have e7 : (t.k == 7) = false := by simpa using k7
   have HX : Hid (prB t.k = (t.k == 8)) := by show _ = _; unfold prB; rw [Bool.eq_iff_iff]; simp [k6, k7]
   clear k6 k7
   go_enter Try.func71, Try.ntmps71
   go_wp2_with fail
   go_ret
   exact ⟨ret_bool HX.out.symm, (Ext.refl _).alloc _⟩
set_option maxRecDepth 100000 in
theorem same_copy (t : T) (pp : Option Addr) (ln cl : Nat) (W : World) : Calls Try.prog 72 #[.agg #[.int .i64 t.k, .int .i64 t.n, .string (bs t.s), .int .i64 t.e, .int .i64 t.r.1, .int .i64 t.r.2.1, .bool t.r.2.2.1, .bool t.r.2.2.2, .int .i64 t.q.1, .int .i64 t.q.2.1, .bool t.q.2.2.1, .bool t.q.2.2.2, .slice pp ln cl]] W fun e w' => e = .returned (aggX t (.slice pp ln cl)) ∧ Ext W w' := by
 go_enter Try.func72, Try.ntmps72
 go_wp2_with fail
 refine bodyPost_ret (v := aggX t (.slice pp ln cl)) (by simp [results, Try.results72, go_sem, aggX]) rfl ⟨rfl, ((Ext.refl _).alloc _).alloc _⟩
set_option maxRecDepth 100000 in
theorem moved1_any (r : Rf) (dr dc : Int) (rp cp : Nat) (W : World) (h1 : W.cell? ⟨rp, 0, none⟩ = some (.int .i64 dr)) (h2 : W.cell? ⟨cp, 0, none⟩ = some (.int .i64 dc)) (z1 : rp < W.heap.size) (z2 : cp < W.heap.size) :
   Calls Try.prog 73 #[.agg #[.int .i64 r.1, .int .i64 r.2.1, .bool r.2.2.1, .bool r.2.2.2], .pointer (some ⟨rp, 0, none⟩), .pointer (some ⟨cp, 0, none⟩)] W fun e w' => e = .returned (.agg #[.int .i64 (mvF dr dc r).1, .int .i64 (mvF dr dc r).2.1, .bool (mvF dr dc r).2.2.1, .bool (mvF dr dc r).2.2.2]) ∧ Ext W w' := by
 obtain ⟨a, b, x, y⟩ := r
 cases x <;> cases y
 · go_enter Try.func73, Try.ntmps73
   go_wp2_with fail
   exact bodyPost_ret (v := .agg #[.int .i64 (wrap64 (a + dr)), .int .i64 (wrap64 (b + dc)), .bool false, .bool false]) (by simp [results, Try.results73, go_sem]) rfl ⟨rfl, ((Ext.refl _).alloc _).alloc _⟩
 · go_enter Try.func73, Try.ntmps73
   go_wp2_with fail
   exact bodyPost_ret (v := .agg #[.int .i64 (wrap64 (a + dr)), .int .i64 (b), .bool false, .bool true]) (by simp [results, Try.results73, go_sem]) rfl ⟨rfl, ((Ext.refl _).alloc _).alloc _⟩
 · go_enter Try.func73, Try.ntmps73
   go_wp2_with fail
   exact bodyPost_ret (v := .agg #[.int .i64 (a), .int .i64 (wrap64 (b + dc)), .bool true, .bool false]) (by simp [results, Try.results73, go_sem]) rfl ⟨rfl, ((Ext.refl _).alloc _).alloc _⟩
 · go_enter Try.func73, Try.ntmps73
   go_wp2_with fail
   exact bodyPost_ret (v := .agg #[.int .i64 (a), .int .i64 (b), .bool true, .bool true]) (by simp [results, Try.results73, go_sem]) rfl ⟨rfl, ((Ext.refl _).alloc _).alloc _⟩
set_option maxRecDepth 100000 in
theorem moved2_4 (t : T) (pp : Option Addr) (ln cl : Nat) (dr dc : Int) (mp rp cp : Nat) (W : World) (hm : W.cell? ⟨mp, 0, none⟩ = some (.func (.func 73) #[] #[.pointer (some ⟨rp, 0, none⟩), .pointer (some ⟨cp, 0, none⟩)])) (h1 : W.cell? ⟨rp, 0, none⟩ = some (.int .i64 dr)) (h2 : W.cell? ⟨cp, 0, none⟩ = some (.int .i64 dc)) (z0 : mp < W.heap.size) (z1 : rp < W.heap.size) (z2 : cp < W.heap.size) (hk : t.k = 4) :
   Calls Try.prog 74 #[.agg #[.int .i64 t.k, .int .i64 t.n, .string (bs t.s), .int .i64 t.e, .int .i64 t.r.1, .int .i64 t.r.2.1, .bool t.r.2.2.1, .bool t.r.2.2.2, .int .i64 t.q.1, .int .i64 t.q.2.1, .bool t.q.2.2.1, .bool t.q.2.2.2, .slice pp ln cl], .pointer (some ⟨mp, 0, none⟩)] W fun e w' => e = .returned (aggX (mvE dr dc t) (.slice pp ln cl)) ∧ Ext W w' := by
 have hent : ∀ args W, (callFunc 73 args).run Try.prog W = .ok (.enter 73 args) W := enters_of Try.func73 (by kernel_rfl) rfl
 have HC : Hid (∀ (r : Rf) (V : World), Ext W V → Calls Try.prog 73 #[.agg #[.int .i64 r.1, .int .i64 r.2.1, .bool r.2.2.1, .bool r.2.2.2], .pointer (some ⟨rp, 0, none⟩), .pointer (some ⟨cp, 0, none⟩)] V fun e w' => e = .returned (.agg #[.int .i64 (mvF dr dc r).1, .int .i64 (mvF dr dc r).2.1, .bool (mvF dr dc r).2.2.1, .bool (mvF dr dc r).2.2.2]) ∧ Ext V w') := fun r V e => moved1_any r dr dc rp cp V ((e.cell.1 rp 0 z1).trans h1) ((e.cell.1 cp 0 z2).trans h2) (Nat.lt_of_lt_of_le z1 e.sz) (Nat.lt_of_lt_of_le z2 e.sz)
 have HM : Hid (∀ V, Ext W V → V.cell? ⟨mp, 0, none⟩ = some (.func (.func 73) #[] #[.pointer (some ⟨rp, 0, none⟩), .pointer (some ⟨cp, 0, none⟩)])) := fun V e => (e.cell.1 mp 0 z0).trans hm
 have e4 : (t.k == 4) = true := by rw [hk]; rfl
 have HX : Hid (mvE dr dc t = t.wR (mvF dr dc t.r)) := if_pos hk
 obtain ⟨r, hr⟩ : ∃ r, mvF dr dc t.r = r := ⟨_, rfl⟩
 have c1 := HC.out t.r
 rw [hr] at c1 HX
 clear hk h1 h2 z1 z2 HC hr
 go_enter Try.func74, Try.ntmps74
 go_wp2_with fail
 refine (c1 _ (((Ext.refl _).alloc _).alloc _)).mono ?_
 rintro e w1 ⟨rfl, E1⟩
 have HB : Hid (BlkX w1 W.heap.size t (.slice pp ln cl) ∧ BlkX w1 (W.heap.size + 1) tz (.slice none 0 0) ∧ Ext W w1) := ⟨(blk13_top rfl ((Ext.refl _).alloc _)).ext E1, (BlkX.top (by simp) (Ext.refl _)).ext E1, (((Ext.refl _).alloc _).alloc _).trans E1⟩
 have HB0 := HB.out.1
 obtain ⟨qa, ⟨la0, la1, la2, la3, la4, la5, la6, la7, la8, la9, la10, la11, la12⟩, ga0, ga1, ga2, ga3, ga4, ga5, ga6, ga7, ga8, ga9, ga10, ga11, ga12⟩ := HB0
 have HB1 := HB.out.2.1
 obtain ⟨qc, ⟨lc0, lc1, lc2, lc3, lc4, lc5, lc6, lc7, lc8, lc9, lc10, lc11, lc12⟩, gc0, gc1, gc2, gc3, gc4, gc5, gc6, gc7, gc8, gc9, gc10, gc11, gc12⟩ := HB1
 clear E1 c1
 go_wp2_with fail
 show bodyPost Try.prog _ _ _ _ (putX ((((w1.setCell ⟨W.heap.size, 4, none⟩ (.int .i64 r.1)).setCell ⟨W.heap.size, 5, none⟩ (.int .i64 r.2.1)).setCell ⟨W.heap.size, 6, none⟩ (.bool r.2.2.1)).setCell ⟨W.heap.size, 7, none⟩ (.bool r.2.2.2)) (W.heap.size + 1) (t.wR r) (.slice pp ln cl))
 rw [HX.out]
 have B2 : BlkX ((((w1.setCell ⟨W.heap.size, 4, none⟩ (.int .i64 r.1)).setCell ⟨W.heap.size, 5, none⟩ (.int .i64 r.2.1)).setCell ⟨W.heap.size, 6, none⟩ (.bool r.2.2.1)).setCell ⟨W.heap.size, 7, none⟩ (.bool r.2.2.2)) (W.heap.size + 1) tz (.slice none 0 0) := Blk13.far1 (Blk13.far1 (Blk13.far1 (Blk13.far1 HB.out.2.1 (by omega) 4 _) (by omega) 5 _) (by omega) 6 _) (by omega) 7 _
 have E2 : Ext W ((((w1.setCell ⟨W.heap.size, 4, none⟩ (.int .i64 r.1)).setCell ⟨W.heap.size, 5, none⟩ (.int .i64 r.2.1)).setCell ⟨W.heap.size, 6, none⟩ (.bool r.2.2.1)).setCell ⟨W.heap.size, 7, none⟩ (.bool r.2.2.2)) := (((HB.out.2.2.setCell (p := ⟨W.heap.size, 4, none⟩) (Nat.le_refl _) _).setCell (p := ⟨W.heap.size, 5, none⟩) (Nat.le_refl _) _).setCell (p := ⟨W.heap.size, 6, none⟩) (Nat.le_refl _) _).setCell (p := ⟨W.heap.size, 7, none⟩) (Nat.le_refl _) _
 exact endR (B2.put (t.wR r) (.slice pp ln cl)) rfl ⟨rfl, putX_E E2 (by omega) _ _⟩ (fun h0 h1 h2 h3 h4 h5 h6 h7 h8 h9 h10 h11 h12 => by simp [results, Try.results74, go_sem, h0, h1, h2, h3, h4, h5, h6, h7, h8, h9, h10, h11, h12, aggX])
set_option maxRecDepth 100000 in
theorem moved2_0 (t : T) (pp : Option Addr) (ln cl : Nat) (dr dc : Int) (mp rp cp : Nat) (W : World) (hm : W.cell? ⟨mp, 0, none⟩ = some (.func (.func 73) #[] #[.pointer (some ⟨rp, 0, none⟩), .pointer (some ⟨cp, 0, none⟩)])) (h1 : W.cell? ⟨rp, 0, none⟩ = some (.int .i64 dr)) (h2 : W.cell? ⟨cp, 0, none⟩ = some (.int .i64 dc)) (z0 : mp < W.heap.size) (z1 : rp < W.heap.size) (z2 : cp < W.heap.size) (hk4 : t.k ≠ 4) (hk5 : t.k ≠ 5) :
   Calls Try.prog 74 #[.agg #[.int .i64 t.k, .int .i64 t.n, .string (bs t.s), .int .i64 t.e, .int .i64 t.r.1, .int .i64 t.r.2.1, .bool t.r.2.2.1, .bool t.r.2.2.2, .int .i64 t.q.1, .int .i64 t.q.2.1, .bool t.q.2.2.1, .bool t.q.2.2.2, .slice pp ln cl], .pointer (some ⟨mp, 0, none⟩)] W fun e w' => e = .returned (aggX (mvE dr dc t) (.slice pp ln cl)) ∧ Ext W w' := by
 have hent : ∀ args W, (callFunc 73 args).run Try.prog W = .ok (.enter 73 args) W := enters_of Try.func73 (by kernel_rfl) rfl
 have HC : Hid (∀ (r : Rf) (V : World), Ext W V → Calls Try.prog 73 #[.agg #[.int .i64 r.1, .int .i64 r.2.1, .bool r.2.2.1, .bool r.2.2.2], .pointer (some ⟨rp, 0, none⟩), .pointer (some ⟨cp, 0, none⟩)] V fun e w' => e = .returned (.agg #[.int .i64 (mvF dr dc r).1, .int .i64 (mvF dr dc r).2.1, .bool (mvF dr dc r).2.2.1, .bool (mvF dr dc r).2.2.2]) ∧ Ext V w') := fun r V e => moved1_any r dr dc rp cp V ((e.cell.1 rp 0 z1).trans h1) ((e.cell.1 cp 0 z2).trans h2) (Nat.lt_of_lt_of_le z1 e.sz) (Nat.lt_of_lt_of_le z2 e.sz)
 have HM : Hid (∀ V, Ext W V → V.cell? ⟨mp, 0, none⟩ = some (.func (.func 73) #[] #[.pointer (some ⟨rp, 0, none⟩), .pointer (some ⟨cp, 0, none⟩)])) := fun V e => (e.cell.1 mp 0 z0).trans hm
 have e4 : (t.k == 4) = false := by simpa using hk4
 have e5 : (t.k == 5) = false := by simpa using hk5
 have HX : Hid (mvE dr dc t = t) := by show _ = _; unfold mvE; rw [if_neg hk4, if_neg hk5]
 clear hk4 hk5 h1 h2 z1 z2 HC
 go_enter Try.func74, Try.ntmps74
 go_wp2_with fail
 rw [HX.out]
 exact bodyPost_ret (v := aggX t (.slice pp ln cl)) (by simp [results, Try.results74, go_sem, aggX]) rfl ⟨rfl, ((Ext.refl _).alloc _).alloc _⟩
set_option maxRecDepth 100000 in
theorem moved2_5 (t : T) (pp : Option Addr) (ln cl : Nat) (dr dc : Int) (mp rp cp : Nat) (W : World) (hm : W.cell? ⟨mp, 0, none⟩ = some (.func (.func 73) #[] #[.pointer (some ⟨rp, 0, none⟩), .pointer (some ⟨cp, 0, none⟩)])) (h1 : W.cell? ⟨rp, 0, none⟩ = some (.int .i64 dr)) (h2 : W.cell? ⟨cp, 0, none⟩ = some (.int .i64 dc)) (z0 : mp < W.heap.size) (z1 : rp < W.heap.size) (z2 : cp < W.heap.size) (hk : t.k = 5) :
   Calls Try.prog 74 #[.agg #[.int .i64 t.k, .int .i64 t.n, .string (bs t.s), .int .i64 t.e, .int .i64 t.r.1, .int .i64 t.r.2.1, .bool t.r.2.2.1, .bool t.r.2.2.2, .int .i64 t.q.1, .int .i64 t.q.2.1, .bool t.q.2.2.1, .bool t.q.2.2.2, .slice pp ln cl], .pointer (some ⟨mp, 0, none⟩)] W fun e w' => e = .returned (aggX (mvE dr dc t) (.slice pp ln cl)) ∧ Ext W w' := by
 have hent : ∀ args W, (callFunc 73 args).run Try.prog W = .ok (.enter 73 args) W := enters_of Try.func73 (by kernel_rfl) rfl
 have HC : Hid (∀ (r : Rf) (V : World), Ext W V → Calls Try.prog 73 #[.agg #[.int .i64 r.1, .int .i64 r.2.1, .bool r.2.2.1, .bool r.2.2.2], .pointer (some ⟨rp, 0, none⟩), .pointer (some ⟨cp, 0, none⟩)] V fun e w' => e = .returned (.agg #[.int .i64 (mvF dr dc r).1, .int .i64 (mvF dr dc r).2.1, .bool (mvF dr dc r).2.2.1, .bool (mvF dr dc r).2.2.2]) ∧ Ext V w') := fun r V e => moved1_any r dr dc rp cp V ((e.cell.1 rp 0 z1).trans h1) ((e.cell.1 cp 0 z2).trans h2) (Nat.lt_of_lt_of_le z1 e.sz) (Nat.lt_of_lt_of_le z2 e.sz)
 have HM : Hid (∀ V, Ext W V → V.cell? ⟨mp, 0, none⟩ = some (.func (.func 73) #[] #[.pointer (some ⟨rp, 0, none⟩), .pointer (some ⟨cp, 0, none⟩)])) := fun V e => (e.cell.1 mp 0 z0).trans hm
 have e4 : (t.k == 4) = false := by rw [hk]; rfl
 have e5 : (t.k == 5) = true := by rw [hk]; rfl
 have HX : Hid (mvE dr dc t = t.wRQ (mvF dr dc t.r) (mvF dr dc t.q)) := by show _ = _; unfold mvE; rw [if_neg (by omega), if_pos hk]
 obtain ⟨r, hr⟩ : ∃ r, mvF dr dc t.r = r := ⟨_, rfl⟩
 obtain ⟨q, hq⟩ : ∃ q, mvF dr dc t.q = q := ⟨_, rfl⟩
 have c1 := HC.out t.r
 have c2 := HC.out t.q
 rw [hr] at c1
 rw [hq] at c2
 rw [hr, hq] at HX
 clear hk h1 h2 z1 z2 HC hr hq
 go_enter Try.func74, Try.ntmps74
 go_wp2_with fail
 have HW1 : Hid (Ext W ((W.alloc (.cells #[.int .i64 t.k, .int .i64 t.n, .string (bs t.s), .int .i64 t.e, .int .i64 t.r.1, .int .i64 t.r.2.1, .bool t.r.2.2.1, .bool t.r.2.2.2, .int .i64 t.q.1, .int .i64 t.q.2.1, .bool t.q.2.2.1, .bool t.q.2.2.2, .slice pp ln cl] 26)).alloc (.cells #[.int .i64 0, .int .i64 0, .string ⟨#[]⟩, .int .i64 0, .int .i64 0, .int .i64 0, .bool false, .bool false, .int .i64 0, .int .i64 0, .bool false, .bool false, .slice none 0 0] 26))) := ((Ext.refl _).alloc _).alloc _
 have HB : Hid (BlkX ((W.alloc (.cells #[.int .i64 t.k, .int .i64 t.n, .string (bs t.s), .int .i64 t.e, .int .i64 t.r.1, .int .i64 t.r.2.1, .bool t.r.2.2.1, .bool t.r.2.2.2, .int .i64 t.q.1, .int .i64 t.q.2.1, .bool t.q.2.2.1, .bool t.q.2.2.2, .slice pp ln cl] 26)).alloc (.cells #[.int .i64 0, .int .i64 0, .string ⟨#[]⟩, .int .i64 0, .int .i64 0, .int .i64 0, .bool false, .bool false, .int .i64 0, .int .i64 0, .bool false, .bool false, .slice none 0 0] 26)) W.heap.size t (.slice pp ln cl) ∧ BlkX ((W.alloc (.cells #[.int .i64 t.k, .int .i64 t.n, .string (bs t.s), .int .i64 t.e, .int .i64 t.r.1, .int .i64 t.r.2.1, .bool t.r.2.2.1, .bool t.r.2.2.2, .int .i64 t.q.1, .int .i64 t.q.2.1, .bool t.q.2.2.1, .bool t.q.2.2.2, .slice pp ln cl] 26)).alloc (.cells #[.int .i64 0, .int .i64 0, .string ⟨#[]⟩, .int .i64 0, .int .i64 0, .int .i64 0, .bool false, .bool false, .int .i64 0, .int .i64 0, .bool false, .bool false, .slice none 0 0] 26)) (W.heap.size + 1) tz (.slice none 0 0)) := ⟨blk13_top rfl ((Ext.refl _).alloc _), BlkX.top (by simp) (Ext.refl _)⟩
 generalize ((W.alloc (.cells #[.int .i64 t.k, .int .i64 t.n, .string (bs t.s), .int .i64 t.e, .int .i64 t.r.1, .int .i64 t.r.2.1, .bool t.r.2.2.1, .bool t.r.2.2.2, .int .i64 t.q.1, .int .i64 t.q.2.1, .bool t.q.2.2.1, .bool t.q.2.2.2, .slice pp ln cl] 26)).alloc (.cells #[.int .i64 0, .int .i64 0, .string ⟨#[]⟩, .int .i64 0, .int .i64 0, .int .i64 0, .bool false, .bool false, .int .i64 0, .int .i64 0, .bool false, .bool false, .slice none 0 0] 26)) = W1 at *
 have mkS : Hid (∀ V, Ext W1 V → (V.cell? ⟨mp, 0, none⟩ = some (.func (.func 73) #[] #[.pointer (some ⟨rp, 0, none⟩), .pointer (some ⟨cp, 0, none⟩)])) ∧ (V.cell? ⟨W.heap.size, 0, none⟩ = some (.int .i64 t.k) ∧ V.cell? ⟨W.heap.size, 1, none⟩ = some (.int .i64 t.n) ∧ V.cell? ⟨W.heap.size, 2, none⟩ = some (.string (bs t.s)) ∧ V.cell? ⟨W.heap.size, 3, none⟩ = some (.int .i64 t.e) ∧ V.cell? ⟨W.heap.size, 4, none⟩ = some (.int .i64 t.r.1) ∧ V.cell? ⟨W.heap.size, 5, none⟩ = some (.int .i64 t.r.2.1) ∧ V.cell? ⟨W.heap.size, 6, none⟩ = some (.bool t.r.2.2.1) ∧ V.cell? ⟨W.heap.size, 7, none⟩ = some (.bool t.r.2.2.2) ∧ V.cell? ⟨W.heap.size, 8, none⟩ = some (.int .i64 t.q.1) ∧ V.cell? ⟨W.heap.size, 9, none⟩ = some (.int .i64 t.q.2.1) ∧ V.cell? ⟨W.heap.size, 10, none⟩ = some (.bool t.q.2.2.1) ∧ V.cell? ⟨W.heap.size, 11, none⟩ = some (.bool t.q.2.2.2) ∧ V.cell? ⟨W.heap.size, 12, none⟩ = some (.slice pp ln cl))) := fun V e => ⟨HM.out V (HW1.out.trans e), (HB.out.1.ext e).2.1⟩
 clear hm
 refine bar_begin (B := fun i => i == 9 || i == 10 || i == 11) (S := fun V => ((V.cell? ⟨mp, 0, none⟩ = some (.func (.func 73) #[] #[.pointer (some ⟨rp, 0, none⟩), .pointer (some ⟨cp, 0, none⟩)])) ∧ (V.cell? ⟨W.heap.size, 0, none⟩ = some (.int .i64 t.k) ∧ V.cell? ⟨W.heap.size, 1, none⟩ = some (.int .i64 t.n) ∧ V.cell? ⟨W.heap.size, 2, none⟩ = some (.string (bs t.s)) ∧ V.cell? ⟨W.heap.size, 3, none⟩ = some (.int .i64 t.e) ∧ V.cell? ⟨W.heap.size, 4, none⟩ = some (.int .i64 t.r.1) ∧ V.cell? ⟨W.heap.size, 5, none⟩ = some (.int .i64 t.r.2.1) ∧ V.cell? ⟨W.heap.size, 6, none⟩ = some (.bool t.r.2.2.1) ∧ V.cell? ⟨W.heap.size, 7, none⟩ = some (.bool t.r.2.2.2) ∧ V.cell? ⟨W.heap.size, 8, none⟩ = some (.int .i64 t.q.1) ∧ V.cell? ⟨W.heap.size, 9, none⟩ = some (.int .i64 t.q.2.1) ∧ V.cell? ⟨W.heap.size, 10, none⟩ = some (.bool t.q.2.2.1) ∧ V.cell? ⟨W.heap.size, 11, none⟩ = some (.bool t.q.2.2.2) ∧ V.cell? ⟨W.heap.size, 12, none⟩ = some (.slice pp ln cl)))) (by kernel_rfl) ?_
 have hS0 := mkS.out (World.drew W1) (Ext.refl _).drew
 refine bar_take (i := 0) (v := ?v0) rfl (by kernel_rfl) (by kernel_rfl) (by kernel_rfl) (by kernel_rfl) (fun _ _ _ h => h) (Or.inl ⟨by rfl, ?hy0⟩) hS0 ?rest0
 case hy0 => (intro W hSW; (try dsimp only at hSW); go_simp; with_reducible rfl)
 simp only [Act.put, List.setIfInBounds_toArray]
 refine bar_take (i := 1) (v := ?v1) rfl (by kernel_rfl) (by kernel_rfl) (by kernel_rfl) (by kernel_rfl) (fun _ _ _ h => h) (Or.inl ⟨by rfl, ?hy1⟩) hS0 ?rest1
 case hy1 => (intro W hSW; (try dsimp only at hSW); go_simp; with_reducible rfl)
 simp only [Act.put]
 refine bar_take (i := 2) (v := ?v2) rfl (by kernel_rfl) (by kernel_rfl) (by kernel_rfl) (by kernel_rfl) (fun _ _ _ h => h) (Or.inl ⟨by rfl, ?hy2⟩) hS0 ?rest2
 case hy2 => (intro W hSW; (try dsimp only at hSW); go_simp; with_reducible rfl)
 simp only [Act.put]
 refine bar_take (i := 4) (v := ?v4) rfl (by kernel_rfl) (by kernel_rfl) (by kernel_rfl) (by kernel_rfl) (fun _ _ _ h => h) (Or.inl ⟨by rfl, ?hy4⟩) hS0 ?rest4
 case hy4 => (intro W hSW; (try dsimp only at hSW); go_simp; with_reducible rfl)
 simp only [Act.put]
 refine bar_take (i := 5) (v := ?v5) rfl (by kernel_rfl) (by kernel_rfl) (by kernel_rfl) (by kernel_rfl) (fun _ _ _ h => h) (Or.inl ⟨by rfl, ?hy5⟩) hS0 ?rest5
 case hy5 => (intro W hSW; (try dsimp only at hSW); go_simp; with_reducible rfl)
 simp only [Act.put]
 refine bar_take (i := 6) (v := ?v6) rfl (by kernel_rfl) (by kernel_rfl) (by kernel_rfl) (by kernel_rfl) (fun _ _ _ h => h) (Or.inl ⟨by rfl, ?hy6⟩) hS0 ?rest6
 case hy6 => (intro W hSW; (try dsimp only at hSW); go_simp; with_reducible rfl)
 simp only [Act.put]
 refine bar_one (i := 3) (by kernel_rfl) rfl (fun KK hKK => ?_)
 go_simp
 go_wp2_with (refine Calls.mono (c1 _ (HW1.out.trans (Ext.refl _).drew)) ?_; rintro e w5 ⟨rfl, E5⟩)
 have X5 : Ext W1 w5 := Ext.trans (Ext.refl _).drew E5
 refine hKK.out _ _ (fun _ => mkS.out _ X5) ?_
 clear hKK KK hS0
 have hS0 := mkS.out w5 X5
 refine bar_take (i := 8) (v := ?v8) rfl (by kernel_rfl) (by kernel_rfl) (by kernel_rfl) (by kernel_rfl) (fun _ _ _ h => h) (Or.inl ⟨by rfl, ?hy8⟩) hS0 ?rest8
 case hy8 => (intro W hSW; (try dsimp only at hSW); go_simp; with_reducible rfl)
 simp only [Act.put, List.setIfInBounds_toArray]
 refine bar_one (i := 7) (by kernel_rfl) rfl (fun KK hKK => ?_)
 go_simp
 go_wp2_with (refine Calls.mono (c2 _ (HW1.out.trans X5)) ?_; rintro e w6 ⟨rfl, E6⟩)
 have X6 : Ext W1 w6 := X5.trans E6
 refine hKK.out _ _ (fun _ => mkS.out _ X6) ?_
 clear hKK KK hS0 mkS
 have HB6 : Hid (BlkX w6 W.heap.size t (.slice pp ln cl) ∧ BlkX w6 (W.heap.size + 1) tz (.slice none 0 0) ∧ Ext W w6) := ⟨HB.out.1.ext X6, HB.out.2.ext X6, HW1.out.trans X6⟩
 have HB0 := HB6.out.1
 obtain ⟨qa, ⟨la0, la1, la2, la3, la4, la5, la6, la7, la8, la9, la10, la11, la12⟩, ga0, ga1, ga2, ga3, ga4, ga5, ga6, ga7, ga8, ga9, ga10, ga11, ga12⟩ := HB0
 have HB1 := HB6.out.2.1
 obtain ⟨qc, ⟨lc0, lc1, lc2, lc3, lc4, lc5, lc6, lc7, lc8, lc9, lc10, lc11, lc12⟩, gc0, gc1, gc2, gc3, gc4, gc5, gc6, gc7, gc8, gc9, gc10, gc11, gc12⟩ := HB1
 refine bar_one (i := 9) (by kernel_rfl) rfl (fun KK hKK => ?_)
 go_simp
 refine hKK.out _ _ (fun h => absurd h (by decide)) ?_
 clear hKK KK
 refine bar_one (i := 10) (by kernel_rfl) rfl (fun KK hKK => ?_)
 go_simp
 refine hKK.out _ _ (fun h => absurd h (by decide)) ?_
 clear hKK KK
 refine bar_one (i := 11) (by kernel_rfl) rfl (fun KK hKK => ?_)
 go_simp
 refine hKK.out _ _ (fun h => absurd h (by decide)) ?_
 clear hKK KK
 refine bar_done (by kernel_rfl) ?_ _
 go_wp2_with fail
 show bodyPost Try.prog _ _ _ _ (putX ((((((((w6.setCell ⟨W.heap.size, 4, none⟩ (.int .i64 r.1)).setCell ⟨W.heap.size, 5, none⟩ (.int .i64 r.2.1)).setCell ⟨W.heap.size, 6, none⟩ (.bool r.2.2.1)).setCell ⟨W.heap.size, 7, none⟩ (.bool r.2.2.2)).setCell ⟨W.heap.size, 8, none⟩ (.int .i64 q.1)).setCell ⟨W.heap.size, 9, none⟩ (.int .i64 q.2.1)).setCell ⟨W.heap.size, 10, none⟩ (.bool q.2.2.1)).setCell ⟨W.heap.size, 11, none⟩ (.bool q.2.2.2)) (W.heap.size + 1) (t.wRQ r q) (.slice pp ln cl))
 rw [HX.out]
 have B2 : BlkX ((((((((w6.setCell ⟨W.heap.size, 4, none⟩ (.int .i64 r.1)).setCell ⟨W.heap.size, 5, none⟩ (.int .i64 r.2.1)).setCell ⟨W.heap.size, 6, none⟩ (.bool r.2.2.1)).setCell ⟨W.heap.size, 7, none⟩ (.bool r.2.2.2)).setCell ⟨W.heap.size, 8, none⟩ (.int .i64 q.1)).setCell ⟨W.heap.size, 9, none⟩ (.int .i64 q.2.1)).setCell ⟨W.heap.size, 10, none⟩ (.bool q.2.2.1)).setCell ⟨W.heap.size, 11, none⟩ (.bool q.2.2.2)) (W.heap.size + 1) tz (.slice none 0 0) := Blk13.far1 (Blk13.far1 (Blk13.far1 (Blk13.far1 (Blk13.far1 (Blk13.far1 (Blk13.far1 (Blk13.far1 HB6.out.2.1 (by omega) 4 _) (by omega) 5 _) (by omega) 6 _) (by omega) 7 _) (by omega) 8 _) (by omega) 9 _) (by omega) 10 _) (by omega) 11 _
 have E2 : Ext W ((((((((w6.setCell ⟨W.heap.size, 4, none⟩ (.int .i64 r.1)).setCell ⟨W.heap.size, 5, none⟩ (.int .i64 r.2.1)).setCell ⟨W.heap.size, 6, none⟩ (.bool r.2.2.1)).setCell ⟨W.heap.size, 7, none⟩ (.bool r.2.2.2)).setCell ⟨W.heap.size, 8, none⟩ (.int .i64 q.1)).setCell ⟨W.heap.size, 9, none⟩ (.int .i64 q.2.1)).setCell ⟨W.heap.size, 10, none⟩ (.bool q.2.2.1)).setCell ⟨W.heap.size, 11, none⟩ (.bool q.2.2.2)) := (((((((HB6.out.2.2.setCell (p := ⟨W.heap.size, 4, none⟩) (Nat.le_refl _) _).setCell (p := ⟨W.heap.size, 5, none⟩) (Nat.le_refl _) _).setCell (p := ⟨W.heap.size, 6, none⟩) (Nat.le_refl _) _).setCell (p := ⟨W.heap.size, 7, none⟩) (Nat.le_refl _) _).setCell (p := ⟨W.heap.size, 8, none⟩) (Nat.le_refl _) _).setCell (p := ⟨W.heap.size, 9, none⟩) (Nat.le_refl _) _).setCell (p := ⟨W.heap.size, 10, none⟩) (Nat.le_refl _) _).setCell (p := ⟨W.heap.size, 11, none⟩) (Nat.le_refl _) _
 exact endR (B2.put (t.wRQ r q) (.slice pp ln cl)) rfl ⟨rfl, putX_E E2 (by omega) _ _⟩ (fun h0 h1 h2 h3 h4 h5 h6 h7 h8 h9 h10 h11 h12 => by simp [results, Try.results74, go_sem, h0, h1, h2, h3, h4, h5, h6, h7, h8, h9, h10, h11, h12, aggX])
/-- What moves one tree. -/
theorem moved2_any (t : T) (pp : Option Addr) (ln cl : Nat) (dr dc : Int) (mp rp cp : Nat) (W : World) (hm : W.cell? ⟨mp, 0, none⟩ = some (.func (.func 73) #[] #[.pointer (some ⟨rp, 0, none⟩), .pointer (some ⟨cp, 0, none⟩)])) (h1 : W.cell? ⟨rp, 0, none⟩ = some (.int .i64 dr)) (h2 : W.cell? ⟨cp, 0, none⟩ = some (.int .i64 dc)) (z0 : mp < W.heap.size) (z1 : rp < W.heap.size) (z2 : cp < W.heap.size) :
   Calls Try.prog 74 #[.agg #[.int .i64 t.k, .int .i64 t.n, .string (bs t.s), .int .i64 t.e, .int .i64 t.r.1, .int .i64 t.r.2.1, .bool t.r.2.2.1, .bool t.r.2.2.2, .int .i64 t.q.1, .int .i64 t.q.2.1, .bool t.q.2.2.1, .bool t.q.2.2.2, .slice pp ln cl], .pointer (some ⟨mp, 0, none⟩)] W fun e w' => e = .returned (aggX (mvE dr dc t) (.slice pp ln cl)) ∧ Ext W w' := by
 by_cases h4 : t.k = 4
 · exact moved2_4 t pp ln cl dr dc mp rp cp W hm h1 h2 z0 z1 z2 h4
 by_cases h5 : t.k = 5
 · exact moved2_5 t pp ln cl dr dc mp rp cp W hm h1 h2 z0 z1 z2 h5
 · exact moved2_0 t pp ln cl dr dc mp rp cp W hm h1 h2 z0 z1 z2 h4 h5
/-- The function value v turns each tree t into g t, whatever is done meanwhile. -/
def FnC (w : World) (v : Value) (g : T → T) : Prop := ∃ K cs, v = .func (.func K) #[] cs ∧ (∀ args W, (callFunc K args).run Try.prog W = .ok (.enter K args) W) ∧ ∀ (W : World) (t : T) (pp : Option Addr) (ln cl : Nat), Ext w W → Calls Try.prog K (#[.agg #[.int .i64 t.k, .int .i64 t.n, .string (bs t.s), .int .i64 t.e, .int .i64 t.r.1, .int .i64 t.r.2.1, .bool t.r.2.2.1, .bool t.r.2.2.2, .int .i64 t.q.1, .int .i64 t.q.2.1, .bool t.q.2.2.1, .bool t.q.2.2.2, .slice pp ln cl]] ++ cs) W fun e w' => ∃ p l c, e = .returned (aggX (g t) (.slice p l c)) ∧ Ext W w' ∧ ((p = pp ∧ l = ln ∧ c = cl ∧ (g t).l = t.l) ∨ (l = 0 ∧ (g t).l = []))
theorem FnC.ext {w w' : World} {v : Value} {g : T → T} (h : FnC w v g) (e : Ext w w') : FnC w' v g := by
 obtain ⟨K, cs, h1, h2, h3⟩ := h
 exact ⟨K, cs, h1, h2, fun W t pp ln cl e2 => h3 W t pp ln cl (e.trans e2)⟩
theorem fn_same (w : World) : FnC w (.func (.func 72) #[] #[]) id :=
 ⟨_, _, rfl, enters_of Try.func72 (by kernel_rfl) rfl, fun W t pp ln cl _ => (same_copy t pp ln cl W).mono (fun e w' h => ⟨pp, ln, cl, h.1, h.2, .inl ⟨rfl, rfl, rfl, rfl⟩⟩)⟩
theorem mvE_l (dr dc : Int) (t : T) : (mvE dr dc t).l = t.l := by unfold mvE; split; rfl; split <;> rfl
set_option maxRecDepth 100000 in
theorem moved_any (dr dc : Int) (W : World) : Calls Try.prog 41 #[.int .i64 dr, .int .i64 dc] W fun e w' => ∃ v, e = .returned v ∧ FnC w' v (mvE dr dc) ∧ Ext W w' := by
 go_enter Try.func41, Try.ntmps41
 go_wp2_with fail
 go_ret
 refine ⟨_, rfl, ⟨74, _, rfl, enters_of Try.func74 (by kernel_rfl) rfl, ?_⟩, (((Ext.refl _).alloc _).alloc _).alloc _⟩
 intro V t pp ln cl e
 have k := fun b o h => e.cell.1 b o h
 refine (moved2_any t pp ln cl dr dc (W.heap.size + 1 + 1) W.heap.size (W.heap.size + 1) V ?_ ?_ ?_ ?_ ?_ ?_).mono (fun e w' h => ⟨pp, ln, cl, h.1, h.2, .inl ⟨rfl, rfl, rfl, mvE_l dr dc t⟩⟩)
 · rw [k _ _ (by simp <;> omega)]; simp [go_sem]
 · rw [k _ _ (by simp <;> omega)]; simp [go_sem]
 · rw [k _ _ (by simp <;> omega)]; simp [go_sem]
 · exact Nat.lt_of_lt_of_le (by simp <;> omega) e.sz
 · exact Nat.lt_of_lt_of_le (by simp <;> omega) e.sz
 · exact Nat.lt_of_lt_of_le (by simp <;> omega) e.sz
end Go.Proofs.Ytcggiljlilbdfaa
