/-
 Package fold: total, poll, utmost: variables that a function value turns.
 Package fold: poll, utmost.
 Package fold: utmost.
 The contract of the document's own long division, bit by bit.
-/
import Derived.Test.YtiahgalhemljnaaGreatDoorV12
import Derived.Test.YtiahgalhemljnaaGreatDoorV2
import Derived.Test.YtiahgalhemljnaaGreatDoorV6
namespace Go.Proofs.YtiahgalhemljnaaGreatDoor
open Go.RowKit
set_option maxHeartbeats 1000000

/-- The variables sum (block g) and count (block g + 1). -/
structure Tot (g : Nat) (l : List V) (W : World) : Prop where
 z : g + 1 < W.heap.size
 s0 : W.cell? ⟨g, 0, none⟩ = some (.int .i64 (hiOf (sumN l)))
 s1 : W.cell? ⟨g, 1, none⟩ = some (.int .u64 (loOf (sumN l)))
 c0 : W.cell? ⟨g + 1, 0, none⟩ = some (.int .i64 (l.length : Int))
 f0 : W.frozen? ⟨g, 0, none⟩ = false
 f1 : W.frozen? ⟨g, 1, none⟩ = false
 f2 : W.frozen? ⟨g + 1, 0, none⟩ = false
theorem Env.at {hi : Nat} {w w' : World} (h : Env hi w w') {b : Nat} (hb : b < hi) (o : Nat) : w'.cell? ⟨b, o, none⟩ = w.cell? ⟨b, o, none⟩ ∧ w'.frozen? ⟨b, o, none⟩ = w.frozen? ⟨b, o, none⟩ :=
 ⟨Below.cell h.1 (p := ⟨b, o, none⟩) hb, Below.frozen h.1 (p := ⟨b, o, none⟩) hb⟩
theorem Tot.env {g hi : Nat} {l : List V} {W W' : World} (h : Tot g l W) (e : Env hi W W') (hg : g + 2 ≤ hi) : Tot g l W' := by
 obtain ⟨z, s0, s1, c0, f0, f1, f2⟩ := h
 have k0 := e.at (b := g) (by omega)
 have k1 := e.at (b := g + 1) (by omega)
 exact ⟨Nat.lt_of_lt_of_le z e.1.size, (k0 0).1.trans s0, (k0 1).1.trans s1, (k1 0).1.trans c0, (k0 0).2.trans f0, (k0 1).2.trans f1, (k1 0).2.trans f2⟩
theorem Tot.put {g : Nat} {l : List V} {W : World} {x : V} (h : Tot g l W) (wk : wrap64 ((l.length : Int) + 1) = ((l.length + 1 : Nat) : Int)) :
   Tot g (l ++ [x]) (((W.setCell ⟨g, 0, none⟩ (.int .i64 (hiOf (sumN l + x.n)))).setCell ⟨g, 1, none⟩ (.int .u64 (loOf (sumN l + x.n)))).setCell ⟨g + 1, 0, none⟩ (.int .i64 (wrap64 ((l.length : Int) + 1)))) := by
 obtain ⟨z, s0, s1, c0, f0, f1, f2⟩ := h
 have es : sumN (l ++ [x]) = sumN l + x.n := by rw [sumN_app]; simp [sumN]
 have el : (l ++ [x]).length = l.length + 1 := by simp
 have e0 := World.cell?_setCell_same W ⟨g, 0, none⟩ (.int .i64 (hiOf (sumN l + x.n))) (by rw [s0])
 have j1 : (W.setCell ⟨g, 0, none⟩ (.int .i64 (hiOf (sumN l + x.n)))).cell? ⟨g, 1, none⟩ = some (.int .u64 (loOf (sumN l))) := by rw [World.cell?_setCell_other _ _ _ _ (by simp)]; exact s1
 have e1 := World.cell?_setCell_same _ ⟨g, 1, none⟩ (.int .u64 (loOf (sumN l + x.n))) (by rw [j1])
 have j2 : ((W.setCell ⟨g, 0, none⟩ (.int .i64 (hiOf (sumN l + x.n)))).setCell ⟨g, 1, none⟩ (.int .u64 (loOf (sumN l + x.n)))).cell? ⟨g + 1, 0, none⟩ = some (.int .i64 (l.length : Int)) := by
   rw [World.cell?_setCell_far _ _ _ _ (by simp), World.cell?_setCell_far _ _ _ _ (by simp)]; exact c0
 have e2 := World.cell?_setCell_same _ ⟨g + 1, 0, none⟩ (.int .i64 (wrap64 ((l.length : Int) + 1))) (by rw [j2])
 refine ⟨by simpa [World.setCell] using z, ?_, ?_, ?_, ?_, ?_, ?_⟩
 · rw [es, World.cell?_setCell_far _ _ _ _ (by simp), World.cell?_setCell_other _ _ _ _ (by simp)]; exact e0
 · rw [es, World.cell?_setCell_far _ _ _ _ (by simp)]; exact e1
 · rw [el, ← wk]; exact e2
 · simpa [go_sem] using f0
 · simpa [go_sem] using f1
 · simpa [go_sem] using f2
set_option maxRecDepth 100000 in
theorem tot1_any (w0 : World) (g : Nat) (hg : w0.heap.size ≤ g) (l : List V) (W : World) (x : V) (h : Tot g l W) (hE : Ext w0 W) (hl : l.length ≤ 20000) (hx : x.ok) :
   Calls Tryz.prog 64 (encV x ++ #[.pointer (some ⟨g, 0, none⟩), .pointer (some ⟨g + 1, 0, none⟩)]) W fun e w' => e = .returned (.tuple #[]) ∧ Tot g (l ++ [x]) w' ∧ Mid w0.heap.size (g + 2) W w' := by
 have H : Hid (Tot g l W) := h
 have hn := (nm_of x hx).2
 have cP := fun W => plus_acc (sumN l) x.n hn W
 have WK : Hid (wrap64 ((l.length : Int) + 1) = ((l.length + 1 : Nat) : Int)) := wrap_1 _ (by omega)
 obtain ⟨z, s0, s1, c0, f0, f1, f2⟩ := h
 have H0 : Hid (w0.heap.size ≤ g ∧ Ext w0 W) := ⟨hg, hE⟩
 rw [show encV x = #[x.dat] from rfl, dat_eq x]
 have zg : g < W.heap.size := by omega
 have HP := fun (w1 : World) (e : Env (g + 2) W w1) => (H.out.env e (Nat.le_refl _)).put (x := x) WK.out
 clear hg hE hx hn hl
 obtain ⟨a0, ha0⟩ : ∃ q, hiOf (sumN l) = q := ⟨_, rfl⟩
 obtain ⟨a1, ha1⟩ : ∃ q, loOf (sumN l) = q := ⟨_, rfl⟩
 obtain ⟨b0, hb0⟩ : ∃ q, hiOf (sumN l + x.n) = q := ⟨_, rfl⟩
 obtain ⟨b1, hb1⟩ : ∃ q, loOf (sumN l + x.n) = q := ⟨_, rfl⟩
 rw [ha0] at s0
 rw [ha1] at s1
 rw [ha0, ha1, hb0, hb1] at cP
 rw [hb0, hb1] at HP
 have HQ : Hid (∀ w1, Env (g + 2) W w1 → Tot g (l ++ [x]) (((w1.setCell ⟨g, 0, none⟩ (.int .i64 b0)).setCell ⟨g, 1, none⟩ (.int .u64 b1)).setCell ⟨g + 1, 0, none⟩ (.int .i64 (wrap64 ((l.length : Int) + 1))))) := HP
 clear ha0 ha1 hb0 hb1 HP
 obtain ⟨xk, hxk⟩ : ∃ q, x.k = q := ⟨_, rfl⟩
 obtain ⟨xn, hxn⟩ : ∃ q, x.n = q := ⟨_, rfl⟩
 obtain ⟨xs, hxs⟩ : ∃ q, x.s = q := ⟨_, rfl⟩
 obtain ⟨xe, hxe⟩ : ∃ q, x.e = q := ⟨_, rfl⟩
 rw [hxk, hxn, hxs, hxe]
 rw [hxn] at cP
 clear hxk hxn hxs hxe
 go_enter Tryz.func64, Tryz.ntmps64
 go_wp2_with fail
 refine (cP _).mono ?_
 rintro e w1 ⟨rfl, E1⟩
 have X1 : Hid (Ext W w1) := ((Ext.refl _).alloc _).trans E1
 have e1 := X1.out.cell
 have d0 := (e1.1 g 0 zg).trans s0
 have d1 := (e1.1 g 1 zg).trans s1
 have d2 := (e1.1 (g + 1) 0 z).trans c0
 have q0 := (e1.2 g 0 zg).trans f0
 have q1 := (e1.2 g 1 zg).trans f1
 have q2 := (e1.2 (g + 1) 0 z).trans f2
 have zc : g + 1 < w1.heap.size := Nat.lt_of_lt_of_le z X1.out.size
 clear E1 e1 s0 s1 c0 f0 f1 f2 cP
 go_wp2_with fail
 go_end0
 refine ⟨rfl, HQ.out w1 (X1.out.env (by omega)), ?_⟩
 exact (((X1.out.mid H0.out.2.size _).set H0.out.1 (by omega) _ _).set H0.out.1 (by omega) _ _).set (by have := H0.out.1; omega) (by omega) _ _
theorem ent_tot1 : ∀ args W, (callFunc 64 args).run Tryz.prog W = .ok (.enter 64 args) W := enters_of Tryz.func64 (by kernel_rfl) rfl
theorem tot_fn (w0 : World) (g hi : Nat) (hg : w0.heap.size ≤ g) (hh : g + 2 ≤ hi) : FnC w0 hi (.func (.func 64) #[] #[.pointer (some ⟨g, 0, none⟩), .pointer (some ⟨g + 1, 0, none⟩)]) encV V.ok (fun l W => Tot g l W) := by
 refine ⟨_, _, rfl, ent_tot1, ?_, ?_⟩
 · intro l W W' h hs e
   exact h.env e hh
 · intro l W x h hs e hl hx
   exact (tot1_any w0 g hg l W x h e hl hx).mono (fun e w' q => ⟨q.1, q.2.1, q.2.2.wide hh⟩)
theorem numF_okk (x : V) (a : Bool) (h : x.ok) : (numF x a).ok := by
 rcases numF_ok x a h with k | ⟨e, k, h1⟩ | ⟨n, k, h1⟩
 · cases hv : numF x a with
   | blank => trivial
   | _ => rw [hv] at k; simp [V.k] at k
 · rw [k]; exact h1
 · rw [k]; exact h1
/-- A block more that the function value does not turn. -/
theorem FnC.keep {w0 : World} {g : Nat} {v : Value} {α : Type} {enc : α → Array Value} {ok : α → Prop} {P : List α → World → Prop} (h : FnC w0 (g + 2) v enc ok P) (x0 x1 x2 x3 : Value) :
   FnC w0 (g + 3) v enc ok (fun l W => P l W ∧ Blk W (g + 2) x0 x1 x2 x3 ∧ Own4 W (g + 2)) := by
 obtain ⟨K, cs, rfl, ent, st, ca⟩ := h
 refine ⟨K, cs, rfl, ent, ?_, ?_⟩
 · intro l W W' ⟨p, b, o⟩ hs e
   obtain ⟨o', eb⟩ := o.env e (by omega)
   exact ⟨st _ _ _ p (by omega) (e.down (by omega)), b.cells e.1.size eb, o'⟩
 · intro l W x ⟨p, b, o⟩ hs e hl hx
   refine (ca l W x p (by omega) e hl hx).mono ?_
   rintro e w' ⟨h1, h2, h3⟩
   obtain ⟨o', eb⟩ := o.mid h3 (Nat.le_refl _)
   exact ⟨h1, ⟨h2, b.cells h3.1.size eb, o'⟩, h3.wide (by omega)⟩
/-- These cells hold these values; of w0 nothing has turned. -/
def RetT (w0 : World) (cs : List (Nat × Nat × Value)) (V : World) : Prop := Ext w0 V ∧ ∀ q ∈ cs, w0.heap.size ≤ q.1 ∧ V.cell? ⟨q.1, q.2.1, none⟩ = some q.2.2 ∧ V.frozen? ⟨q.1, q.2.1, none⟩ = false
theorem RetT.ext {w0 V V' : World} {cs : List (Nat × Nat × Value)} (h : RetT w0 cs V) (e : Ext V V') : RetT w0 cs V' :=
 ⟨h.1.trans e, fun q hq => by
   obtain ⟨h1, h2, h3⟩ := h.2 q hq
   have z := World.block_lt_of_cell? _ _ h2
   exact ⟨h1, (e.cell.1 _ _ z).trans h2, (e.cell.2 _ _ z).trans h3⟩⟩
theorem RetT.drew {w0 V : World} {cs : List (Nat × Nat × Value)} (h : RetT w0 cs V) : RetT w0 cs V.drew := h.ext (Ext.refl _).drew
theorem RetT.drewN {w0 V : World} {cs : List (Nat × Nat × Value)} {n : Nat} (h : RetT w0 cs V) : RetT w0 cs (V.drewN n) := h.ext ((Ext.refl _).drewN n)
theorem RetT.set {w0 V : World} {cs : List (Nat × Nat × Value)} {b o : Nat} {v : Value} (h : RetT w0 cs V) (hm : (b, o, v) ∈ cs) : RetT w0 cs (V.setCell ⟨b, o, none⟩ v) := by
 obtain ⟨m1, m2, m3⟩ := h.2 _ hm
 refine ⟨h.1.setCell m1 _, fun q hq => ?_⟩
 obtain ⟨h1, h2, h3⟩ := h.2 q hq
 refine ⟨h1, ?_, by simpa [go_sem] using h3⟩
 by_cases hc : q.1 = b ∧ q.2.1 = o
 · obtain ⟨rfl, rfl⟩ := hc
   have : some q.2.2 = some v := h2.symm.trans m2
   rw [World.cell?_setCell_same _ _ _ (by rw [h2])]
   exact this.symm
 · rw [World.cell?_setCell_other _ _ _ _ (by simp; intro e1 e2; exact hc ⟨e1.symm, e2.symm⟩)]
   exact h2
theorem RetT.put {w0 V : World} {cs : List (Nat × Nat × Value)} {b : Nat} {o0 o1 o2 o3 : Value} (h : RetT w0 cs V) (hb : w0.heap.size ≤ b) (hn : ∀ q ∈ cs, b ≠ q.1) (B : Blk V b o0 o1 o2 o3) (x0 x1 x2 x3 : Value) :
   RetT w0 (cs ++ [(b, 0, x0), (b, 1, x1), (b, 2, x2), (b, 3, x3)]) (put4 V b x0 x1 x2 x3) := by
 obtain ⟨_, ⟨k0, k1, k2, k3⟩, f0, f1, f2, f3⟩ := B.set x0 x1 x2 x3
 refine ⟨(((h.1.setCell hb _).setCell hb _).setCell hb _).setCell hb _, fun q hq => ?_⟩
 rcases List.mem_append.1 hq with hq | hq
 · obtain ⟨h1, h2, h3⟩ := h.2 q hq
   have := hn q hq
   refine ⟨h1, ?_, ?_⟩
   · unfold put4
     iterate 4 rw [World.cell?_setCell_far _ _ _ _ this]
     exact h2
   · unfold put4
     simpa [go_sem] using h3
 · simp only [List.mem_cons, List.not_mem_nil, or_false] at hq
   rcases hq with rfl | rfl | rfl | rfl
   · exact ⟨hb, k0, f0⟩
   · exact ⟨hb, k1, f1⟩
   · exact ⟨hb, k2, f2⟩
   · exact ⟨hb, k3, f3⟩
/-- Zero values in a block of its own. -/
def Zer (W : World) (b : Nat) : Prop := Blk W b (.int .i64 0) (.int .i64 0) (.string ⟨#[]⟩) (.int .i64 0) ∧ Own4 W b
set_option maxRecDepth 100000 in
theorem total_any (w0 : World) (gs : List Ag) (p : Option Addr) (n c : Nat) (hA : RdA w0.heap.size w0 (.slice p n c) gs) (hI : AgI gs) (hlen : (seen gs).length ≤ 15000) (hal : gs.length ≤ 15000) (hN : Nm w0) :
   Calls Tryz.prog 35 #[.slice p n c] w0 fun e w' => e = .returned (.tuple #[.agg #[.int .i64 (hiOf (sumN (got numF (seen gs)))), .int .u64 (loOf (sumN (got numF (seen gs))))], .int .i64 ((got numF (seen gs)).length : Int), (bad numF (seen gs)).dat]) ∧ Ext w0 w' := by
 have HF : Hid (FnC w0 (w0.heap.size + 3) (.func (.func 64) #[] #[.pointer (some ⟨w0.heap.size, 0, none⟩), .pointer (some ⟨w0.heap.size + 1, 0, none⟩)]) encV V.ok (fun l W => Tot w0.heap.size l W ∧ Zer W (w0.heap.size + 2))) := (tot_fn w0 w0.heap.size _ (Nat.le_refl _) (Nat.le_refl _)).keep _ _ _ _
 have H0 : Hid (RdA w0.heap.size w0 (.slice p n c) gs ∧ AgI gs ∧ (seen gs).length ≤ 15000 ∧ gs.length ≤ 15000 ∧ Nm w0) := ⟨hA, hI, hlen, hal, hN⟩
 clear hA hI hlen hal hN
 go_enter Tryz.func35, Tryz.ntmps35
 go_wp2_with fail
 generalize hW3 : ((w0.alloc _).alloc _).alloc _ = W3
 have z3 : W3.heap.size = w0.heap.size + 3 := by rw [← hW3]; simp
 have E3 : Ext w0 W3 := by rw [← hW3]; exact (((Ext.refl _).alloc _).alloc _).alloc _
 have HT : Tot w0.heap.size [] W3 := by
   refine ⟨by omega, ?_, ?_, ?_, ?_, ?_, ?_⟩
   all_goals (rw [← hW3]; simp [go_sem, sumN]; try decide)
 have B3 : Blk W3 (w0.heap.size + 2) (.int .i64 0) (.int .i64 0) (.string ⟨#[]⟩) (.int .i64 0) := by rw [← hW3]; exact blk_top (by simp) (Ext.refl _)
 have O3 : Own4 W3 (w0.heap.size + 2) := by rw [← hW3]; exact Own4.at (by simp) (by decide) (Ext.refl _)
 refine (through_any w0 gs _ _ numF (fun l W => Tot w0.heap.size l W ∧ Zer W (w0.heap.size + 2)) W3 p n c (turn_number w0 H0.out.2.2.2.2) (by rw [z3]; exact HF.out) numF_okk (H0.out.1.low (Below.mono E3 (Nat.le_refl _))) H0.out.2.1 H0.out.2.2.1 H0.out.2.2.2.1 ⟨HT, B3, O3⟩ E3 H0.out.2.2.2.2).mono ?_
 rintro e w4 ⟨rfl, ⟨T4, B4, O4⟩, X4⟩
 obtain ⟨c0z, ⟨c0_0, c0_1, c0_2, c0_3⟩, c0f0, c0f1, c0f2, c0f3⟩ := B4
 have HB4 : Hid (Blk w4 (w0.heap.size + 2) (.int .i64 0) (.int .i64 0) (.string ⟨#[]⟩) (.int .i64 0)) := ⟨c0z, ⟨c0_0, c0_1, c0_2, c0_3⟩, c0f0, c0f1, c0f2, c0f3⟩
 obtain ⟨tz, t0, t1, t2, g0, g1, g2⟩ := T4
 have HD : Hid ((bad numF (seen gs)).dat = .agg #[.int .i64 (bad numF (seen gs)).k, .int .i64 (bad numF (seen gs)).n, .string (bad numF (seen gs)).s, .int .i64 (bad numF (seen gs)).e]) := dat_eq _
 have hD := dat_eq (bad numF (seen gs))
 obtain ⟨A0, hA0⟩ : ∃ q, hiOf (sumN (got numF (seen gs))) = q := ⟨_, rfl⟩
 obtain ⟨A1, hA1⟩ : ∃ q, loOf (sumN (got numF (seen gs))) = q := ⟨_, rfl⟩
 obtain ⟨C0, hC0⟩ : ∃ q : Int, ((got numF (seen gs)).length : Int) = q := ⟨_, rfl⟩
 obtain ⟨zk, hzk⟩ : ∃ q, (bad numF (seen gs)).k = q := ⟨_, rfl⟩
 obtain ⟨zn, hzn⟩ : ∃ q, (bad numF (seen gs)).n = q := ⟨_, rfl⟩
 obtain ⟨zs', hzs⟩ : ∃ q, (bad numF (seen gs)).s = q := ⟨_, rfl⟩
 obtain ⟨ze, hze⟩ : ∃ q, (bad numF (seen gs)).e = q := ⟨_, rfl⟩
 have HR : Hid (hiOf (sumN (got numF (seen gs))) = A0 ∧ loOf (sumN (got numF (seen gs))) = A1 ∧ ((got numF (seen gs)).length : Int) = C0) := ⟨hA0, hA1, hC0⟩
 rw [hzk, hzn, hzs, hze] at HD hD
 rw [hA0] at t0
 rw [hA1] at t1
 rw [hC0] at t2
 rw [hD]
 clear hA0 hA1 hC0 hzk hzn hzs hze hW3 z3 E3 HT B3 O3 O4 hD
 have HR4 : Hid (RetT w0 [(w0.heap.size, 0, .int .i64 A0), (w0.heap.size, 1, .int .u64 A1), (w0.heap.size + 1, 0, .int .i64 C0)] w4) := by
   refine ⟨X4, fun q hq => ?_⟩
   simp only [List.mem_cons, List.not_mem_nil, or_false] at hq
   rcases hq with rfl | rfl | rfl
   · exact ⟨Nat.le_refl _, t0, g0⟩
   · exact ⟨Nat.le_refl _, t1, g1⟩
   · exact ⟨Nat.le_succ _, t2, g2⟩
 clear X4
 have tz0 : w0.heap.size < w4.heap.size := by omega
 go_wp2_with fail
 generalize hW5 : World.setCell _ ⟨w0.heap.size + 1 + 1, 3, none⟩ _ = W5
 have HR5 : RetT w0 [(w0.heap.size, 0, .int .i64 A0), (w0.heap.size, 1, .int .u64 A1), (w0.heap.size + 1, 0, .int .i64 C0), (w0.heap.size + 2, 0, .int .i64 zk), (w0.heap.size + 2, 1, .int .i64 zn), (w0.heap.size + 2, 2, .string zs'), (w0.heap.size + 2, 3, .int .i64 ze)] W5 := by
   rw [← hW5]
   exact HR4.out.put (b := w0.heap.size + 2) (by omega) (by intro q hq; simp only [List.mem_cons, List.not_mem_nil, or_false] at hq; rcases hq with rfl | rfl | rfl <;> (show w0.heap.size + 2 ≠ _; omega)) HB4.out _ _ _ _
 clear hW5 tz0 tz g0 g1 g2 t0 t1 t2 c0z c0_0 c0_1 c0_2 c0_3 c0f0 c0f1 c0f2 c0f3 HB4 HR4 HF
 have mkS : Hid (∀ V, RetT w0 [(w0.heap.size, 0, .int .i64 A0), (w0.heap.size, 1, .int .u64 A1), (w0.heap.size + 1, 0, .int .i64 C0), (w0.heap.size + 2, 0, .int .i64 zk), (w0.heap.size + 2, 1, .int .i64 zn), (w0.heap.size + 2, 2, .string zs'), (w0.heap.size + 2, 3, .int .i64 ze)] V →
     (((V.cell? ⟨w0.heap.size, 0, none⟩ = some (.int .i64 A0) ∧ V.cell? ⟨w0.heap.size, 1, none⟩ = some (.int .u64 A1) ∧ V.cell? ⟨w0.heap.size + 1, 0, none⟩ = some (.int .i64 C0) ∧ V.cell? ⟨w0.heap.size + 2, 0, none⟩ = some (.int .i64 zk) ∧ V.cell? ⟨w0.heap.size + 2, 1, none⟩ = some (.int .i64 zn) ∧ V.cell? ⟨w0.heap.size + 2, 2, none⟩ = some (.string zs') ∧ V.cell? ⟨w0.heap.size + 2, 3, none⟩ = some (.int .i64 ze)) ∧
      (V.frozen? ⟨w0.heap.size, 0, none⟩ = false ∧ V.frozen? ⟨w0.heap.size, 1, none⟩ = false ∧ V.frozen? ⟨w0.heap.size + 1, 0, none⟩ = false ∧ V.frozen? ⟨w0.heap.size + 2, 0, none⟩ = false ∧ V.frozen? ⟨w0.heap.size + 2, 1, none⟩ = false ∧ V.frozen? ⟨w0.heap.size + 2, 2, none⟩ = false ∧ V.frozen? ⟨w0.heap.size + 2, 3, none⟩ = false)) ∧
      RetT w0 [(w0.heap.size, 0, .int .i64 A0), (w0.heap.size, 1, .int .u64 A1), (w0.heap.size + 1, 0, .int .i64 C0), (w0.heap.size + 2, 0, .int .i64 zk), (w0.heap.size + 2, 1, .int .i64 zn), (w0.heap.size + 2, 2, .string zs'), (w0.heap.size + 2, 3, .int .i64 ze)] V)) := by
   intro V h
   exact ⟨⟨⟨(h.2 (_, _, _) (by simp)).2.1, (h.2 (_, _, _) (by simp)).2.1, (h.2 (_, _, _) (by simp)).2.1, (h.2 (_, _, _) (by simp)).2.1, (h.2 (_, _, _) (by simp)).2.1, (h.2 (_, _, _) (by simp)).2.1, (h.2 (_, _, _) (by simp)).2.1⟩,
     (h.2 (_, _, .int .i64 A0) (by simp)).2.2, (h.2 (_, _, .int .u64 A1) (by simp)).2.2, (h.2 (_, _, .int .i64 C0) (by simp)).2.2, (h.2 (_, _, .int .i64 zk) (by simp)).2.2, (h.2 (_, _, .int .i64 zn) (by simp)).2.2, (h.2 (_, _, .string zs') (by simp)).2.2, (h.2 (_, _, .int .i64 ze) (by simp)).2.2⟩, h⟩
 have X5 : Hid (Ext w0 W5) := HR5.1
 obtain ⟨⟨⟨k0, k1, k2, k3, k4, k5, k6⟩, f0, f1, f2, f3, f4, f5, f6⟩, _⟩ := mkS.out _ HR5
 have zz : w0.heap.size + 2 < W5.heap.size := World.block_lt_of_cell? _ _ k3
 have zz1 : w0.heap.size + 1 < W5.heap.size := World.block_lt_of_cell? _ _ k2
 have zz0 : w0.heap.size < W5.heap.size := World.block_lt_of_cell? _ _ k0
 clear HR5
 have HR6 : Hid (RetT w0 [(w0.heap.size, 0, .int .i64 A0), (w0.heap.size, 1, .int .u64 A1), (w0.heap.size + 1, 0, .int .i64 C0), (w0.heap.size + 2, 0, .int .i64 zk), (w0.heap.size + 2, 1, .int .i64 zn), (w0.heap.size + 2, 2, .string zs'), (w0.heap.size + 2, 3, .int .i64 ze)] W5) := by
   refine ⟨X5.out, fun q hq => ?_⟩
   simp only [List.mem_cons, List.not_mem_nil, or_false] at hq
   rcases hq with rfl | rfl | rfl | rfl | rfl | rfl | rfl
   · exact ⟨Nat.le_refl _, k0, f0⟩
   · exact ⟨Nat.le_refl _, k1, f1⟩
   · exact ⟨Nat.le_succ _, k2, f2⟩
   · exact ⟨by show _ ≤ _ + 2; omega, k3, f3⟩
   · exact ⟨by show _ ≤ _ + 2; omega, k4, f4⟩
   · exact ⟨by show _ ≤ _ + 2; omega, k5, f5⟩
   · exact ⟨by show _ ≤ _ + 2; omega, k6, f6⟩
 go_region
 all_goals
   go_wp2_with fail
   clear k0 k1 k2 k3 k4 k5 k6 f0 f1 f2 f3 f4 f5 f6 zz zz1 zz0
   generalize hW6 : World.drew _ = W6
   have R6 := mkS.out W6 (by rw [← hW6]; with_reducible repeat (first | exact HR6.out | apply RetT.drewN | apply RetT.drew | (refine RetT.set ?_ (by simp))))
   obtain ⟨⟨⟨k0, k1, k2, k3, k4, k5, k6⟩, _⟩, R6⟩ := R6
   refine bodyPost_ret (v := .tuple #[.agg #[.int .i64 A0, .int .u64 A1], .int .i64 C0, .agg #[.int .i64 zk, .int .i64 zn, .string zs', .int .i64 ze]]) (by simp [results, Tryz.results35, go_sem, k0, k1, k2, k3, k4, k5, k6]) rfl ⟨?_, R6.1⟩
   rw [HR.out.1, HR.out.2.1, HR.out.2.2, HD.out]

open Go.RowKit
set_option maxHeartbeats 1000000

/-- The variables count (block g) and trues (block g + 1). -/
structure Pol (g : Nat) (l : List V) (W : World) : Prop where
 z : g + 1 < W.heap.size
 c0 : W.cell? ⟨g, 0, none⟩ = some (.int .i64 (l.length : Int))
 t0 : W.cell? ⟨g + 1, 0, none⟩ = some (.int .i64 (truN l : Int))
 f0 : W.frozen? ⟨g, 0, none⟩ = false
 f1 : W.frozen? ⟨g + 1, 0, none⟩ = false
theorem Pol.env {g hi : Nat} {l : List V} {W W' : World} (h : Pol g l W) (e : Env hi W W') (hg : g + 2 ≤ hi) : Pol g l W' := by
 obtain ⟨z, c0, t0, f0, f1⟩ := h
 have k0 := e.at (b := g) (by omega)
 have k1 := e.at (b := g + 1) (by omega)
 exact ⟨Nat.lt_of_lt_of_le z e.1.size, (k0 0).1.trans c0, (k1 0).1.trans t0, (k0 0).2.trans f0, (k1 0).2.trans f1⟩
theorem Pol.put0 {g : Nat} {l : List V} {W : World} {x : V} (h : Pol g l W) (hx : x.n = 0) (wk : wrap64 ((l.length : Int) + 1) = ((l.length + 1 : Nat) : Int)) :
   Pol g (l ++ [x]) (W.setCell ⟨g, 0, none⟩ (.int .i64 (wrap64 ((l.length : Int) + 1)))) := by
 obtain ⟨z, c0, t0, f0, f1⟩ := h
 have es : truN (l ++ [x]) = truN l := by rw [truN_app]; simp [truN, hx]
 have el : (l ++ [x]).length = l.length + 1 := by simp
 refine ⟨by simpa [World.setCell] using z, ?_, ?_, by simpa [go_sem] using f0, by simpa [go_sem] using f1⟩
 · rw [el, ← wk]; exact World.cell?_setCell_same _ _ _ (by rw [c0])
 · rw [es, World.cell?_setCell_far _ _ _ _ (by simp)]; exact t0
theorem Pol.put1 {g : Nat} {l : List V} {W : World} {x : V} (h : Pol g l W) (hx : x.n ≠ 0) (wk : wrap64 ((l.length : Int) + 1) = ((l.length + 1 : Nat) : Int)) (wt : wrap64 ((truN l : Int) + 1) = ((truN l + 1 : Nat) : Int)) :
   Pol g (l ++ [x]) ((W.setCell ⟨g, 0, none⟩ (.int .i64 (wrap64 ((l.length : Int) + 1)))).setCell ⟨g + 1, 0, none⟩ (.int .i64 (wrap64 ((truN l : Int) + 1)))) := by
 obtain ⟨z, c0, t0, f0, f1⟩ := h
 have es : truN (l ++ [x]) = truN l + 1 := by rw [truN_app]; simp [truN, hx]
 have el : (l ++ [x]).length = l.length + 1 := by simp
 refine ⟨by simpa [World.setCell] using z, ?_, ?_, by simpa [go_sem] using f0, by simpa [go_sem] using f1⟩
 · rw [el, ← wk, World.cell?_setCell_far _ _ _ _ (by simp)]; exact World.cell?_setCell_same _ _ _ (by rw [c0])
 · rw [es, ← wt]; exact World.cell?_setCell_same _ _ _ (by rw [World.cell?_setCell_far _ _ _ _ (by simp), t0])
set_option maxRecDepth 100000 in
theorem pol1_any (w0 : World) (g : Nat) (hg : w0.heap.size ≤ g) (l : List V) (W : World) (x : V) (h : Pol g l W) (hE : Ext w0 W) (hl : l.length ≤ 20000) :
   Calls Tryz.prog 44 (encV x ++ #[.pointer (some ⟨g, 0, none⟩), .pointer (some ⟨g + 1, 0, none⟩)]) W fun e w' => e = .returned (.tuple #[]) ∧ Pol g (l ++ [x]) w' ∧ Mid w0.heap.size (g + 2) W w' := by
 have WK : Hid (wrap64 ((l.length : Int) + 1) = ((l.length + 1 : Nat) : Int)) := wrap_1 _ (by omega)
 have WT : Hid (wrap64 ((truN l : Int) + 1) = ((truN l + 1 : Nat) : Int)) := wrap_1 _ (by have := truN_le l; omega)
 have H : Hid (Pol g l W) := h
 obtain ⟨z, c0, t0, f0, f1⟩ := h
 have H0 : Hid (w0.heap.size ≤ g ∧ Ext w0 W) := ⟨hg, hE⟩
 have zg : g < W.heap.size := by omega
 rw [show encV x = #[x.dat] from rfl, dat_eq x]
 have HP0 : Hid (∀ o, x.n = 0 → Pol g (l ++ [x]) ((W.setCell ⟨g, 0, none⟩ (.int .i64 (wrap64 ((l.length : Int) + 1)))).alloc o)) := fun o hx =>
   have q := H.out.put0 hx WK.out
   q.env (((Ext.refl _).alloc o).env (hi := g + 2) q.z) (Nat.le_refl _)
 have HP1 : Hid (∀ o, x.n ≠ 0 → Pol g (l ++ [x]) (((W.setCell ⟨g, 0, none⟩ (.int .i64 (wrap64 ((l.length : Int) + 1)))).setCell ⟨g + 1, 0, none⟩ (.int .i64 (wrap64 ((truN l : Int) + 1)))).alloc o)) := fun o hx =>
   have q := H.out.put1 hx WK.out WT.out
   q.env (((Ext.refl _).alloc o).env (hi := g + 2) q.z) (Nat.le_refl _)
 clear hg hE hl
 have X0 : Hid (∀ v, Mid w0.heap.size (g + 2) W (W.setCell ⟨g, 0, none⟩ v)) := fun v => ((Ext.refl W).mid H0.out.2.size _).set H0.out.1 (by omega) _ _
 have X1 : Hid (∀ v u, Mid w0.heap.size (g + 2) W ((W.setCell ⟨g, 0, none⟩ v).setCell ⟨g + 1, 0, none⟩ u)) := fun v u => (X0.out v).set (by have := H0.out.1; omega) (by omega) _ _
 obtain ⟨xk, hxk⟩ : ∃ q, x.k = q := ⟨_, rfl⟩
 obtain ⟨xn, hxn⟩ : ∃ q, x.n = q := ⟨_, rfl⟩
 obtain ⟨xs, hxs⟩ : ∃ q, x.s = q := ⟨_, rfl⟩
 obtain ⟨xe, hxe⟩ : ∃ q, x.e = q := ⟨_, rfl⟩
 rw [hxk, hxn, hxs, hxe]
 rw [hxn] at HP0 HP1
 clear hxk hxn hxs hxe
 by_cases hx : xn = 0
 · have en : (xn != 0) = false := by simpa using hx
   have HX : Hid (xn = 0) := hx
   clear hx
   go_enter Tryz.func44, Tryz.ntmps44
   go_wp2_with fail
   go_end0
   exact ⟨rfl, HP0.out _ HX.out, (X0.out _).trans (((Ext.refl _).alloc _).mid (Nat.le_trans H0.out.2.size (X0.out _).1.size) _)⟩
 · have en : (xn != 0) = true := by simpa using hx
   have HX : Hid (xn ≠ 0) := hx
   clear hx
   go_enter Tryz.func44, Tryz.ntmps44
   go_wp2_with fail
   go_end0
   exact ⟨rfl, HP1.out _ HX.out, (X1.out _ _).trans (((Ext.refl _).alloc _).mid (Nat.le_trans H0.out.2.size (X1.out _ _).1.size) _)⟩
theorem ent_pol1 : ∀ args W, (callFunc 44 args).run Tryz.prog W = .ok (.enter 44 args) W := enters_of Tryz.func44 (by kernel_rfl) rfl
theorem pol_fn (w0 : World) (g hi : Nat) (hg : w0.heap.size ≤ g) (hh : g + 2 ≤ hi) : FnC w0 hi (.func (.func 44) #[] #[.pointer (some ⟨g, 0, none⟩), .pointer (some ⟨g + 1, 0, none⟩)]) encV V.ok (fun l W => Pol g l W) := by
 refine ⟨_, _, rfl, ent_pol1, ?_, ?_⟩
 · intro l W W' h hs e
   exact h.env e hh
 · intro l W x h hs e hl hx
   exact (pol1_any w0 g hg l W x h e hl).mono (fun e w' q => ⟨q.1, q.2.1, q.2.2.wide hh⟩)
theorem toBool_ok (x : V) (h : x.ok) : x.toBool.ok := by
 cases x with
 | blank => trivial
 | tf b => trivial
 | num n => trivial
 | text s =>
   show (if s.data.toList = trueL then V.tf true else if s.data.toList = falseL then V.tf false else V.err 2).ok
   split
   · trivial
   · split
     · trivial
     · exact ⟨by decide, by decide⟩
 | err e => exact h
theorem truF_okk (x : V) (a : Bool) (h : x.ok) : (truF x a).ok := by
 cases a with
 | false => exact toBool_ok x h
 | true =>
   cases x with
   | blank => trivial
   | text s => trivial
   | tf b => exact toBool_ok _ h
   | num n => exact toBool_ok _ h
   | err e => exact toBool_ok _ h
set_option maxRecDepth 100000 in
theorem poll_any (w0 : World) (gs : List Ag) (p : Option Addr) (n c : Nat) (hA : RdA w0.heap.size w0 (.slice p n c) gs) (hI : AgI gs) (hlen : (seen gs).length ≤ 15000) (hal : gs.length ≤ 15000) (hN : Nm w0) :
   Calls Tryz.prog 17 #[.slice p n c] w0 fun e w' => e = .returned (.tuple #[.int .i64 ((got truF (seen gs)).length : Int), .int .i64 (truN (got truF (seen gs)) : Int), (bad truF (seen gs)).dat]) ∧ Ext w0 w' := by
 have HF : Hid (FnC w0 (w0.heap.size + 3) (.func (.func 44) #[] #[.pointer (some ⟨w0.heap.size, 0, none⟩), .pointer (some ⟨w0.heap.size + 1, 0, none⟩)]) encV V.ok (fun l W => Pol w0.heap.size l W ∧ Zer W (w0.heap.size + 2))) := (pol_fn w0 w0.heap.size _ (Nat.le_refl _) (Nat.le_refl _)).keep _ _ _ _
 have H0 : Hid (RdA w0.heap.size w0 (.slice p n c) gs ∧ AgI gs ∧ (seen gs).length ≤ 15000 ∧ gs.length ≤ 15000 ∧ Nm w0) := ⟨hA, hI, hlen, hal, hN⟩
 clear hA hI hlen hal hN
 go_enter Tryz.func17, Tryz.ntmps17
 go_wp2_with fail
 generalize hW3 : ((w0.alloc _).alloc _).alloc _ = W3
 have z3 : W3.heap.size = w0.heap.size + 3 := by rw [← hW3]; simp
 have E3 : Ext w0 W3 := by rw [← hW3]; exact (((Ext.refl _).alloc _).alloc _).alloc _
 have HT : Pol w0.heap.size [] W3 := by
   refine ⟨by omega, ?_, ?_, ?_, ?_⟩
   all_goals (rw [← hW3]; simp [go_sem, truN])
 have B3 : Blk W3 (w0.heap.size + 2) (.int .i64 0) (.int .i64 0) (.string ⟨#[]⟩) (.int .i64 0) := by rw [← hW3]; exact blk_top (by simp) (Ext.refl _)
 have O3 : Own4 W3 (w0.heap.size + 2) := by rw [← hW3]; exact Own4.at (by simp) (by decide) (Ext.refl _)
 refine (through_any w0 gs _ _ truF (fun l W => Pol w0.heap.size l W ∧ Zer W (w0.heap.size + 2)) W3 p n c (turn_truth w0 H0.out.2.2.2.2) (by rw [z3]; exact HF.out) truF_okk (H0.out.1.low (Below.mono E3 (Nat.le_refl _))) H0.out.2.1 H0.out.2.2.1 H0.out.2.2.2.1 ⟨HT, B3, O3⟩ E3 H0.out.2.2.2.2).mono ?_
 rintro e w4 ⟨rfl, ⟨T4, B4, O4⟩, X4⟩
 obtain ⟨c0z, ⟨c0_0, c0_1, c0_2, c0_3⟩, c0f0, c0f1, c0f2, c0f3⟩ := B4
 have HB4 : Hid (Blk w4 (w0.heap.size + 2) (.int .i64 0) (.int .i64 0) (.string ⟨#[]⟩) (.int .i64 0)) := ⟨c0z, ⟨c0_0, c0_1, c0_2, c0_3⟩, c0f0, c0f1, c0f2, c0f3⟩
 obtain ⟨tz, t0, t1, g0, g1⟩ := T4
 have HD : Hid ((bad truF (seen gs)).dat = .agg #[.int .i64 (bad truF (seen gs)).k, .int .i64 (bad truF (seen gs)).n, .string (bad truF (seen gs)).s, .int .i64 (bad truF (seen gs)).e]) := dat_eq _
 have hD := dat_eq (bad truF (seen gs))
 obtain ⟨A0, hA0⟩ : ∃ q : Int, ((got truF (seen gs)).length : Int) = q := ⟨_, rfl⟩
 obtain ⟨A1, hA1⟩ : ∃ q : Int, (truN (got truF (seen gs)) : Int) = q := ⟨_, rfl⟩
 obtain ⟨zk, hzk⟩ : ∃ q, (bad truF (seen gs)).k = q := ⟨_, rfl⟩
 obtain ⟨zn, hzn⟩ : ∃ q, (bad truF (seen gs)).n = q := ⟨_, rfl⟩
 obtain ⟨zs', hzs⟩ : ∃ q, (bad truF (seen gs)).s = q := ⟨_, rfl⟩
 obtain ⟨ze, hze⟩ : ∃ q, (bad truF (seen gs)).e = q := ⟨_, rfl⟩
 have HR : Hid (((got truF (seen gs)).length : Int) = A0 ∧ (truN (got truF (seen gs)) : Int) = A1) := ⟨hA0, hA1⟩
 rw [hzk, hzn, hzs, hze] at HD hD
 rw [hA0] at t0
 rw [hA1] at t1
 rw [hD]
 clear hA0 hA1 hzk hzn hzs hze hW3 z3 E3 HT B3 O3 O4 hD
 have HR4 : Hid (RetT w0 [(w0.heap.size, 0, .int .i64 A0), (w0.heap.size + 1, 0, .int .i64 A1)] w4) := by
   refine ⟨X4, fun q hq => ?_⟩
   simp only [List.mem_cons, List.not_mem_nil, or_false] at hq
   rcases hq with rfl | rfl
   · exact ⟨Nat.le_refl _, t0, g0⟩
   · exact ⟨Nat.le_succ _, t1, g1⟩
 clear X4
 have tz0 : w0.heap.size < w4.heap.size := by omega
 go_wp2_with fail
 generalize hW5 : World.setCell _ ⟨w0.heap.size + 1 + 1, 3, none⟩ _ = W5
 have HR5 : RetT w0 [(w0.heap.size, 0, .int .i64 A0), (w0.heap.size + 1, 0, .int .i64 A1), (w0.heap.size + 2, 0, .int .i64 zk), (w0.heap.size + 2, 1, .int .i64 zn), (w0.heap.size + 2, 2, .string zs'), (w0.heap.size + 2, 3, .int .i64 ze)] W5 := by
   rw [← hW5]
   exact HR4.out.put (b := w0.heap.size + 2) (by omega) (by intro q hq; simp only [List.mem_cons, List.not_mem_nil, or_false] at hq; rcases hq with rfl | rfl <;> (show w0.heap.size + 2 ≠ _; omega)) HB4.out _ _ _ _
 clear hW5 tz0 tz g0 g1 t0 t1 c0z c0_0 c0_1 c0_2 c0_3 c0f0 c0f1 c0f2 c0f3 HB4 HR4 HF
 have mkS : Hid (∀ V, RetT w0 [(w0.heap.size, 0, .int .i64 A0), (w0.heap.size + 1, 0, .int .i64 A1), (w0.heap.size + 2, 0, .int .i64 zk), (w0.heap.size + 2, 1, .int .i64 zn), (w0.heap.size + 2, 2, .string zs'), (w0.heap.size + 2, 3, .int .i64 ze)] V →
     (((V.cell? ⟨w0.heap.size, 0, none⟩ = some (.int .i64 A0) ∧ V.cell? ⟨w0.heap.size + 1, 0, none⟩ = some (.int .i64 A1) ∧ V.cell? ⟨w0.heap.size + 2, 0, none⟩ = some (.int .i64 zk) ∧ V.cell? ⟨w0.heap.size + 2, 1, none⟩ = some (.int .i64 zn) ∧ V.cell? ⟨w0.heap.size + 2, 2, none⟩ = some (.string zs') ∧ V.cell? ⟨w0.heap.size + 2, 3, none⟩ = some (.int .i64 ze)) ∧
      (V.frozen? ⟨w0.heap.size, 0, none⟩ = false ∧ V.frozen? ⟨w0.heap.size + 1, 0, none⟩ = false ∧ V.frozen? ⟨w0.heap.size + 2, 0, none⟩ = false ∧ V.frozen? ⟨w0.heap.size + 2, 1, none⟩ = false ∧ V.frozen? ⟨w0.heap.size + 2, 2, none⟩ = false ∧ V.frozen? ⟨w0.heap.size + 2, 3, none⟩ = false)) ∧
      RetT w0 [(w0.heap.size, 0, .int .i64 A0), (w0.heap.size + 1, 0, .int .i64 A1), (w0.heap.size + 2, 0, .int .i64 zk), (w0.heap.size + 2, 1, .int .i64 zn), (w0.heap.size + 2, 2, .string zs'), (w0.heap.size + 2, 3, .int .i64 ze)] V)) := by
   intro V h
   exact ⟨⟨⟨(h.2 (_, _, _) (by simp)).2.1, (h.2 (_, _, _) (by simp)).2.1, (h.2 (_, _, _) (by simp)).2.1, (h.2 (_, _, _) (by simp)).2.1, (h.2 (_, _, _) (by simp)).2.1, (h.2 (_, _, _) (by simp)).2.1⟩,
     (h.2 (_, _, .int .i64 A0) (by simp)).2.2, (h.2 (_, _, .int .i64 A1) (by simp)).2.2, (h.2 (_, _, .int .i64 zk) (by simp)).2.2, (h.2 (_, _, .int .i64 zn) (by simp)).2.2, (h.2 (_, _, .string zs') (by simp)).2.2, (h.2 (_, _, .int .i64 ze) (by simp)).2.2⟩, h⟩
 have X5 : Hid (Ext w0 W5) := HR5.1
 obtain ⟨⟨⟨k0, k2, k3, k4, k5, k6⟩, f0, f2, f3, f4, f5, f6⟩, _⟩ := mkS.out _ HR5
 have zz : w0.heap.size + 2 < W5.heap.size := World.block_lt_of_cell? _ _ k3
 have zz1 : w0.heap.size + 1 < W5.heap.size := World.block_lt_of_cell? _ _ k2
 have zz0 : w0.heap.size < W5.heap.size := World.block_lt_of_cell? _ _ k0
 clear HR5
 have HR6 : Hid (RetT w0 [(w0.heap.size, 0, .int .i64 A0), (w0.heap.size + 1, 0, .int .i64 A1), (w0.heap.size + 2, 0, .int .i64 zk), (w0.heap.size + 2, 1, .int .i64 zn), (w0.heap.size + 2, 2, .string zs'), (w0.heap.size + 2, 3, .int .i64 ze)] W5) := by
   refine ⟨X5.out, fun q hq => ?_⟩
   simp only [List.mem_cons, List.not_mem_nil, or_false] at hq
   rcases hq with rfl | rfl | rfl | rfl | rfl | rfl
   · exact ⟨Nat.le_refl _, k0, f0⟩
   · exact ⟨Nat.le_succ _, k2, f2⟩
   · exact ⟨by show _ ≤ _ + 2; omega, k3, f3⟩
   · exact ⟨by show _ ≤ _ + 2; omega, k4, f4⟩
   · exact ⟨by show _ ≤ _ + 2; omega, k5, f5⟩
   · exact ⟨by show _ ≤ _ + 2; omega, k6, f6⟩
 go_region
 all_goals
   go_wp2_with fail
   clear k0 k2 k3 k4 k5 k6 f0 f2 f3 f4 f5 f6 zz zz1 zz0
   generalize hW6 : World.drew _ = W6
   have R6 := mkS.out W6 (by rw [← hW6]; with_reducible repeat (first | exact HR6.out | apply RetT.drewN | apply RetT.drew | (refine RetT.set ?_ (by simp))))
   obtain ⟨⟨⟨k0, k2, k3, k4, k5, k6⟩, _⟩, R6⟩ := R6
   refine bodyPost_ret (v := .tuple #[.int .i64 A0, .int .i64 A1, .agg #[.int .i64 zk, .int .i64 zn, .string zs', .int .i64 ze]]) (by simp [results, Tryz.results17, go_sem, k0, k2, k3, k4, k5, k6]) rfl ⟨?_, R6.1⟩
   rw [HR.out.1, HR.out.2, HD.out]

open Go.RowKit
set_option maxHeartbeats 1000000

theorem Zer.env {hi b : Nat} {W W' : World} (h : Zer W b) (e : Env hi W W') (hb : b < hi) : Zer W' b := by
 obtain ⟨o, k⟩ := h.2.env e hb
 exact ⟨h.1.cells e.1.size k, o⟩
theorem Zer.far {W : World} {b c : Nat} (h : Zer W b) (hc : c ≠ b) (o : Nat) (v : Value) : Zer (W.setCell ⟨c, o, none⟩ v) b := ⟨h.1.far1 hc o v, h.2.set _ _⟩
/-- The variables ahead (block g), first (block g + 2), count (block g + 3); the result's block g + 1. -/
structure Utm (p : Int → Int → Bool) (g : Nat) (av : Value) (l : List V) (W : World) : Prop where
 z : g + 3 < W.heap.size
 a0 : W.cell? ⟨g, 0, none⟩ = some av
 b0 : W.cell? ⟨g + 2, 0, none⟩ = some (.int .i64 (bestN p l))
 c0 : W.cell? ⟨g + 3, 0, none⟩ = some (.int .i64 (l.length : Int))
 f2 : W.frozen? ⟨g + 2, 0, none⟩ = false
 f3 : W.frozen? ⟨g + 3, 0, none⟩ = false
 r : Zer W (g + 1)
theorem Utm.env {p : Int → Int → Bool} {g hi : Nat} {av : Value} {l : List V} {W W' : World} (h : Utm p g av l W) (e : Env hi W W') (hg : g + 4 ≤ hi) : Utm p g av l W' := by
 obtain ⟨z, a0, b0, c0, f2, f3, r⟩ := h
 have k0 := e.at (b := g) (by omega)
 have k2 := e.at (b := g + 2) (by omega)
 have k3 := e.at (b := g + 3) (by omega)
 exact ⟨Nat.lt_of_lt_of_le z e.1.size, (k0 0).1.trans a0, (k2 0).1.trans b0, (k3 0).1.trans c0, (k2 0).2.trans f2, (k3 0).2.trans f3, r.env e (by omega)⟩
theorem Utm.put0 {p : Int → Int → Bool} {g : Nat} {av : Value} {l : List V} {W : World} {x : V} (h : Utm p g av l W) (hx : bestN p (l ++ [x]) = bestN p l) (wk : wrap64 ((l.length : Int) + 1) = ((l.length + 1 : Nat) : Int)) :
   Utm p g av (l ++ [x]) (W.setCell ⟨g + 3, 0, none⟩ (.int .i64 (wrap64 ((l.length : Int) + 1)))) := by
 obtain ⟨z, a0, b0, c0, f2, f3, r⟩ := h
 have el : (l ++ [x]).length = l.length + 1 := by simp
 refine ⟨by simpa [World.setCell] using z, ?_, ?_, ?_, by simpa [go_sem] using f2, by simpa [go_sem] using f3, r.far (by omega) _ _⟩
 · rw [World.cell?_setCell_far _ _ _ _ (by show g + 3 ≠ g; omega)]; exact a0
 · rw [hx, World.cell?_setCell_far _ _ _ _ (by show g + 3 ≠ g + 2; omega)]; exact b0
 · rw [el, ← wk]; exact World.cell?_setCell_same _ _ _ (by rw [c0])
theorem Utm.put1 {p : Int → Int → Bool} {g : Nat} {av : Value} {l : List V} {W : World} {x : V} (h : Utm p g av l W) (hx : bestN p (l ++ [x]) = x.n) (wk : wrap64 ((l.length : Int) + 1) = ((l.length + 1 : Nat) : Int)) :
   Utm p g av (l ++ [x]) ((W.setCell ⟨g + 2, 0, none⟩ (.int .i64 x.n)).setCell ⟨g + 3, 0, none⟩ (.int .i64 (wrap64 ((l.length : Int) + 1)))) := by
 obtain ⟨z, a0, b0, c0, f2, f3, r⟩ := h
 have el : (l ++ [x]).length = l.length + 1 := by simp
 refine ⟨by simpa [World.setCell] using z, ?_, ?_, ?_, by simpa [go_sem] using f2, by simpa [go_sem] using f3, (r.far (by omega) _ _).far (by omega) _ _⟩
 · rw [World.cell?_setCell_far _ _ _ _ (by show g + 3 ≠ g; omega), World.cell?_setCell_far _ _ _ _ (by show g + 2 ≠ g; omega)]; exact a0
 · rw [hx, World.cell?_setCell_far _ _ _ _ (by show g + 3 ≠ g + 2; omega)]; exact World.cell?_setCell_same _ _ _ (by rw [b0])
 · rw [el, ← wk]; exact World.cell?_setCell_same _ _ _ (by rw [World.cell?_setCell_far _ _ _ _ (by show g + 2 ≠ g + 3; omega), c0])

open Go.RowKit
set_option maxHeartbeats 1000000

theorem Pair.put {w : World} {b : Nat} {x : Int} (h : Pair w b x) (y : Int) (hu : uhi y = uhi x) : Pair (w.setCell ⟨b, 1, none⟩ (.int .u64 (loOf y))) b y := by
 obtain ⟨z, c0, c1, f0, f1⟩ := h
 refine ⟨by simpa [World.setCell] using z, ?_, ?_, ?_, ?_⟩
 · rw [World.cell?_setCell_other _ _ _ _ (by simp), hu]; exact c0
 · exact World.cell?_setCell_same _ ⟨b, 1, none⟩ _ (by rw [c1])
 · rw [World.frozen?_setCell]; exact f0
 · rw [World.frozen?_setCell]; exact f1
/-- What stands still while the division goes on. -/
def Keep (w : World) (X D : Int) (wr : World) : Prop := Ext w wr ∧ Pair wr w.heap.size X ∧ Pair wr (w.heap.size + 1) D ∧ Pair wr (w.heap.size + 2) 0 ∧ Pair wr (w.heap.size + 3) 0
theorem Keep.ext {w W W' : World} {X D : Int} (h : Keep w X D W) (e : Ext W W') : Keep w X D W' :=
 ⟨h.1.trans e, h.2.1.ext e, h.2.2.1.ext e, h.2.2.2.1.ext e, h.2.2.2.2.ext e⟩
theorem Keep.far {w W : World} {X D : Int} (h : Keep w X D W) {c : Nat} (hc : w.heap.size + 4 ≤ c) (o : Nat) (v : Value) : Keep w X D (W.setCell ⟨c, o, none⟩ v) :=
 ⟨h.1.setCell (by show w.heap.size ≤ c; omega) _, h.2.1.far (by omega) _ _, h.2.2.1.far (by omega) _ _, h.2.2.2.1.far (by omega) _ _, h.2.2.2.2.far (by omega) _ _⟩
end Go.Proofs.YtiahgalhemljnaaGreatDoor
