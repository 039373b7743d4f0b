/-
 Package fold: poll, utmost.
 Package fold: utmost.
 The contract of the document's own long division, bit by bit.
 Contracts of the document's products, quotients and rounding.
-/
import Derived.Test.YtiahgalhemljnaaDoorR12
import Derived.Test.YtiahgalhemljnaaDoorR6
import Derived.Test.YtiahgalhemljnaaDoorR8
namespace Go.Proofs.YtiahgalhemljnaaDoor
open Go.RowKit
set_option maxHeartbeats 1000000

/-- The variables count (block g) and trues (block g + 1). -/
structure Pol (g : Nat) (l : List V) (W : World) : Prop where
 z : g + 1 < W.heap.size
 c0 : W.cell? ⟨g, 0, none⟩ = some (.int .i64 (l.length : Int))
 t0 : W.cell? ⟨g + 1, 0, none⟩ = some (.int .i64 (truN l : Int))
 f0 : W.frozen? ⟨g, 0, none⟩ = false
 f1 : W.frozen? ⟨g + 1, 0, none⟩ = false
theorem Pol.env {g hi : Nat} {l : List V} {W W' : World} (h : Pol g l W) (e : Env hi W W') (hg : g + 2 ≤ hi) : Pol g l W' := by
 obtain ⟨z, c0, t0, f0, f1⟩ := h
 have k0 := e.at (b := g) (by omega)
 have k1 := e.at (b := g + 1) (by omega)
 exact ⟨Nat.lt_of_lt_of_le z e.1.size, (k0 0).1.trans c0, (k1 0).1.trans t0, (k0 0).2.trans f0, (k1 0).2.trans f1⟩
theorem Pol.put0 {g : Nat} {l : List V} {W : World} {x : V} (h : Pol g l W) (hx : x.n = 0) (wk : wrap64 ((l.length : Int) + 1) = ((l.length + 1 : Nat) : Int)) :
   Pol g (l ++ [x]) (W.setCell ⟨g, 0, none⟩ (.int .i64 (wrap64 ((l.length : Int) + 1)))) := by
 obtain ⟨z, c0, t0, f0, f1⟩ := h
 have es : truN (l ++ [x]) = truN l := by rw [truN_app]; simp [truN, hx]
 have el : (l ++ [x]).length = l.length + 1 := by simp
 refine ⟨by simpa [World.setCell] using z, ?_, ?_, by simpa [go_sem] using f0, by simpa [go_sem] using f1⟩
 · rw [el, ← wk]; exact World.cell?_setCell_same _ _ _ (by rw [c0])
 · rw [es, World.cell?_setCell_far _ _ _ _ (by simp)]; exact t0
theorem Pol.put1 {g : Nat} {l : List V} {W : World} {x : V} (h : Pol g l W) (hx : x.n ≠ 0) (wk : wrap64 ((l.length : Int) + 1) = ((l.length + 1 : Nat) : Int)) (wt : wrap64 ((truN l : Int) + 1) = ((truN l + 1 : Nat) : Int)) :
   Pol g (l ++ [x]) ((W.setCell ⟨g, 0, none⟩ (.int .i64 (wrap64 ((l.length : Int) + 1)))).setCell ⟨g + 1, 0, none⟩ (.int .i64 (wrap64 ((truN l : Int) + 1)))) := by
 obtain ⟨z, c0, t0, f0, f1⟩ := h
 have es : truN (l ++ [x]) = truN l + 1 := by rw [truN_app]; simp [truN, hx]
 have el : (l ++ [x]).length = l.length + 1 := by simp
 refine ⟨by simpa [World.setCell] using z, ?_, ?_, by simpa [go_sem] using f0, by simpa [go_sem] using f1⟩
 · rw [el, ← wk, World.cell?_setCell_far _ _ _ _ (by simp)]; exact World.cell?_setCell_same _ _ _ (by rw [c0])
 · rw [es, ← wt]; exact World.cell?_setCell_same _ _ _ (by rw [World.cell?_setCell_far _ _ _ _ (by simp), t0])

open Go.RowKit
set_option maxHeartbeats 1000000

theorem Zer.env {hi b : Nat} {W W' : World} (h : Zer W b) (e : Env hi W W') (hb : b < hi) : Zer W' b := by
 obtain ⟨o, k⟩ := h.2.env e hb
 exact ⟨h.1.cells e.1.size k, o⟩
theorem Zer.far {W : World} {b c : Nat} (h : Zer W b) (hc : c ≠ b) (o : Nat) (v : Value) : Zer (W.setCell ⟨c, o, none⟩ v) b := ⟨h.1.far1 hc o v, h.2.set _ _⟩
/-- The variables ahead (block g), first (block g + 2), count (block g + 3); the result's block g + 1. -/
structure Utm (p : Int → Int → Bool) (g : Nat) (av : Value) (l : List V) (W : World) : Prop where
 z : g + 3 < W.heap.size
 a0 : W.cell? ⟨g, 0, none⟩ = some av
 b0 : W.cell? ⟨g + 2, 0, none⟩ = some (.int .i64 (bestN p l))
 c0 : W.cell? ⟨g + 3, 0, none⟩ = some (.int .i64 (l.length : Int))
 f2 : W.frozen? ⟨g + 2, 0, none⟩ = false
 f3 : W.frozen? ⟨g + 3, 0, none⟩ = false
 r : Zer W (g + 1)
theorem Utm.env {p : Int → Int → Bool} {g hi : Nat} {av : Value} {l : List V} {W W' : World} (h : Utm p g av l W) (e : Env hi W W') (hg : g + 4 ≤ hi) : Utm p g av l W' := by
 obtain ⟨z, a0, b0, c0, f2, f3, r⟩ := h
 have k0 := e.at (b := g) (by omega)
 have k2 := e.at (b := g + 2) (by omega)
 have k3 := e.at (b := g + 3) (by omega)
 exact ⟨Nat.lt_of_lt_of_le z e.1.size, (k0 0).1.trans a0, (k2 0).1.trans b0, (k3 0).1.trans c0, (k2 0).2.trans f2, (k3 0).2.trans f3, r.env e (by omega)⟩
theorem Utm.put0 {p : Int → Int → Bool} {g : Nat} {av : Value} {l : List V} {W : World} {x : V} (h : Utm p g av l W) (hx : bestN p (l ++ [x]) = bestN p l) (wk : wrap64 ((l.length : Int) + 1) = ((l.length + 1 : Nat) : Int)) :
   Utm p g av (l ++ [x]) (W.setCell ⟨g + 3, 0, none⟩ (.int .i64 (wrap64 ((l.length : Int) + 1)))) := by
 obtain ⟨z, a0, b0, c0, f2, f3, r⟩ := h
 have el : (l ++ [x]).length = l.length + 1 := by simp
 refine ⟨by simpa [World.setCell] using z, ?_, ?_, ?_, by simpa [go_sem] using f2, by simpa [go_sem] using f3, r.far (by omega) _ _⟩
 · rw [World.cell?_setCell_far _ _ _ _ (by show g + 3 ≠ g; omega)]; exact a0
 · rw [hx, World.cell?_setCell_far _ _ _ _ (by show g + 3 ≠ g + 2; omega)]; exact b0
 · rw [el, ← wk]; exact World.cell?_setCell_same _ _ _ (by rw [c0])
theorem Utm.put1 {p : Int → Int → Bool} {g : Nat} {av : Value} {l : List V} {W : World} {x : V} (h : Utm p g av l W) (hx : bestN p (l ++ [x]) = x.n) (wk : wrap64 ((l.length : Int) + 1) = ((l.length + 1 : Nat) : Int)) :
   Utm p g av (l ++ [x]) ((W.setCell ⟨g + 2, 0, none⟩ (.int .i64 x.n)).setCell ⟨g + 3, 0, none⟩ (.int .i64 (wrap64 ((l.length : Int) + 1)))) := by
 obtain ⟨z, a0, b0, c0, f2, f3, r⟩ := h
 have el : (l ++ [x]).length = l.length + 1 := by simp
 refine ⟨by simpa [World.setCell] using z, ?_, ?_, ?_, by simpa [go_sem] using f2, by simpa [go_sem] using f3, (r.far (by omega) _ _).far (by omega) _ _⟩
 · rw [World.cell?_setCell_far _ _ _ _ (by show g + 3 ≠ g; omega), World.cell?_setCell_far _ _ _ _ (by show g + 2 ≠ g; omega)]; exact a0
 · rw [hx, World.cell?_setCell_far _ _ _ _ (by show g + 3 ≠ g + 2; omega)]; exact World.cell?_setCell_same _ _ _ (by rw [b0])
 · rw [el, ← wk]; exact World.cell?_setCell_same _ _ _ (by rw [World.cell?_setCell_far _ _ _ _ (by show g + 2 ≠ g + 3; omega), c0])
/-- A function value that holds one number against another. -/
def AhC (v : Value) (p : Int → Int → Bool) : Prop := ∃ K, v = .func (.func K) #[] #[] ∧ (∀ args W, (callFunc K args).run Tryd.prog W = .ok (.enter K args) W) ∧
 ∀ W a b, Calls Tryd.prog K #[.int .i64 a, .int .i64 b] W fun e w' => e = .returned (.bool (p a b)) ∧ w' = W
set_option maxRecDepth 100000 in
theorem min1_any (a b : Int) (W : World) : Calls Tryd.prog 34 #[.int .i64 a, .int .i64 b] W fun e w' => e = .returned (.bool (ltB a b)) ∧ w' = W := by
 have H : Hid (ltB a b = decide (a < b)) := rfl
 go_enter Tryd.func34, Tryd.ntmps34
 go_wp2_with fail
 go_ret
 exact ⟨ret_bool H.out.symm, rfl⟩
set_option maxRecDepth 100000 in
theorem max1_any (a b : Int) (W : World) : Calls Tryd.prog 35 #[.int .i64 a, .int .i64 b] W fun e w' => e = .returned (.bool (gtB a b)) ∧ w' = W := by
 have H : Hid (gtB a b = decide (a > b)) := rfl
 go_enter Tryd.func35, Tryd.ntmps35
 go_wp2_with fail
 go_ret
 exact ⟨ret_bool H.out.symm, rfl⟩
theorem ah_min : AhC (.func (.func 34) #[] #[]) ltB := ⟨_, rfl, enters_of Tryd.func34 (by kernel_rfl) rfl, fun W a b => min1_any a b W⟩
theorem ah_max : AhC (.func (.func 35) #[] #[]) gtB := ⟨_, rfl, enters_of Tryd.func35 (by kernel_rfl) rfl, fun W a b => max1_any a b W⟩
set_option maxRecDepth 100000 in
theorem utm1_any (p : Int → Int → Bool) (av : Value) (hv : AhC av p) (w0 : World) (g : Nat) (hg : w0.heap.size ≤ g) (l : List V) (W : World) (x : V) (h : Utm p g av l W) (hE : Ext w0 W) (hl : l.length ≤ 20000) :
   Calls Tryd.prog 60 (encV x ++ #[.pointer (some ⟨g + 3, 0, none⟩), .pointer (some ⟨g, 0, none⟩), .pointer (some ⟨g + 2, 0, none⟩)]) W fun e w' => e = .returned (.tuple #[]) ∧ Utm p g av (l ++ [x]) w' ∧ Mid w0.heap.size (g + 4) W w' := by
 obtain ⟨K, rfl, ent, cK⟩ := hv
 have WK : Hid (wrap64 ((l.length : Int) + 1) = ((l.length + 1 : Nat) : Int)) := wrap_1 _ (by omega)
 have H : Hid (Utm p g (.func (.func K) #[] #[]) l W) := h
 obtain ⟨z, a0, b0, c0, f2, f3, r⟩ := h
 have H0 : Hid (w0.heap.size ≤ g ∧ Ext w0 W) := ⟨hg, hE⟩
 have z0 : g < W.heap.size := by omega
 have z2 : g + 2 < W.heap.size := by omega
 have HB : Hid (bestN p (l ++ [x]) = if l.length = 0 then x.n else if p x.n (bestN p l) then x.n else bestN p l) := bestN_app p l x
 rw [show encV x = #[x.dat] from rfl, dat_eq x]
 have HP0 : Hid (∀ o, bestN p (l ++ [x]) = bestN p l → Utm p g (.func (.func K) #[] #[]) (l ++ [x]) ((W.setCell ⟨g + 3, 0, none⟩ (.int .i64 (wrap64 ((l.length : Int) + 1)))).alloc o)) := fun o hx =>
   have q := H.out.put0 hx WK.out
   q.env (((Ext.refl _).alloc o).env (hi := g + 4) q.z) (Nat.le_refl _)
 have HP1 : Hid (∀ o, bestN p (l ++ [x]) = x.n → Utm p g (.func (.func K) #[] #[]) (l ++ [x]) (((W.setCell ⟨g + 2, 0, none⟩ (.int .i64 x.n)).setCell ⟨g + 3, 0, none⟩ (.int .i64 (wrap64 ((l.length : Int) + 1)))).alloc o)) := fun o hx =>
   have q := H.out.put1 hx WK.out
   q.env (((Ext.refl _).alloc o).env (hi := g + 4) q.z) (Nat.le_refl _)
 have X0 : Hid (∀ v, Mid w0.heap.size (g + 4) W (W.setCell ⟨g + 3, 0, none⟩ v)) := fun v => ((Ext.refl W).mid H0.out.2.size _).set (by have := H0.out.1; omega) (by omega) _ _
 have X1 : Hid (∀ v u, Mid w0.heap.size (g + 4) W ((W.setCell ⟨g + 2, 0, none⟩ v).setCell ⟨g + 3, 0, none⟩ u)) := fun v u => (((Ext.refl W).mid H0.out.2.size _).set (by have := H0.out.1; omega) (by omega) _ _).set (by have := H0.out.1; omega) (by omega) _ _
 clear hg hE hl r
 obtain ⟨xk, hxk⟩ : ∃ q, x.k = q := ⟨_, rfl⟩
 obtain ⟨xn, hxn⟩ : ∃ q, x.n = q := ⟨_, rfl⟩
 obtain ⟨xs, hxs⟩ : ∃ q, x.s = q := ⟨_, rfl⟩
 obtain ⟨xe, hxe⟩ : ∃ q, x.e = q := ⟨_, rfl⟩
 rw [hxk, hxn, hxs, hxe]
 rw [hxn] at HP1 HB
 clear hxk hxn hxs hxe
 obtain ⟨m, hm⟩ : ∃ m : Nat, l.length = m := ⟨_, rfl⟩
 rw [hm] at HB HP0 HP1 c0
 obtain ⟨bb, hbb⟩ : ∃ q, bestN p l = q := ⟨_, rfl⟩
 rw [hbb] at HB HP0 b0
 have cA := fun W => cK W xn bb
 clear hm hbb cK WK H
 by_cases h0 : m = 0
 · have e0 : ((m : Int) == 0) = true := by simp; omega
   have HX : Hid (bestN p (l ++ [x]) = xn) := by show _ = _; rw [HB.out, if_pos h0]
   clear cA HB h0
   go_enter Tryd.func60, Tryd.ntmps60
   go_wp2_with fail
   go_end0
   exact ⟨rfl, HP1.out _ HX.out, (X1.out _ _).trans (((Ext.refl _).alloc _).mid (Nat.le_trans H0.out.2.size (X1.out _ _).1.size) _)⟩
 · have e0 : ((m : Int) == 0) = false := by simp; omega
   cases hp : p xn bb
   · rw [hp] at cA
     have HX : Hid (bestN p (l ++ [x]) = bb) := by show _ = _; rw [HB.out, if_neg h0, hp]; rfl
     clear hp h0 HB
     go_enter Tryd.func60, Tryd.ntmps60
     go_wp2_with fail
     refine (cA _).mono ?_
     rintro e w1 ⟨rfl, rfl⟩
     go_wp2_with fail
     go_end0
     exact ⟨rfl, HP0.out _ HX.out, (X0.out _).trans (((Ext.refl _).alloc _).mid (Nat.le_trans H0.out.2.size (X0.out _).1.size) _)⟩
   · rw [hp] at cA
     have HX : Hid (bestN p (l ++ [x]) = xn) := by show _ = _; rw [HB.out, if_neg h0, hp]; rfl
     clear hp h0 HB
     go_enter Tryd.func60, Tryd.ntmps60
     go_wp2_with fail
     refine (cA _).mono ?_
     rintro e w1 ⟨rfl, rfl⟩
     go_wp2_with fail
     go_end0
     exact ⟨rfl, HP1.out _ HX.out, (X1.out _ _).trans (((Ext.refl _).alloc _).mid (Nat.le_trans H0.out.2.size (X1.out _ _).1.size) _)⟩
theorem ent_utm1 : ∀ args W, (callFunc 60 args).run Tryd.prog W = .ok (.enter 60 args) W := enters_of Tryd.func60 (by kernel_rfl) rfl
theorem utm_fn (p : Int → Int → Bool) (av : Value) (hv : AhC av p) (w0 : World) (g : Nat) (hg : w0.heap.size ≤ g) : FnC w0 (g + 4) (.func (.func 60) #[] #[.pointer (some ⟨g + 3, 0, none⟩), .pointer (some ⟨g, 0, none⟩), .pointer (some ⟨g + 2, 0, none⟩)]) encV V.ok (fun l W => Utm p g av l W) := by
 refine ⟨_, _, rfl, ent_utm1, ?_, ?_⟩
 · intro l W W' h hs e
   exact h.env e (Nat.le_refl _)
 · intro l W x h hs e hl hx
   exact utm1_any p av hv w0 g hg l W x h e hl
set_option maxRecDepth 100000 in
theorem utmost_any (q : Int → Int → Bool) (av : Value) (hv : AhC av q) (w0 : World) (gs : List Ag) (p : Option Addr) (n c : Nat) (hA : RdA w0.heap.size w0 (.slice p n c) gs) (hI : AgI gs) (hlen : (seen gs).length ≤ 15000) (hal : gs.length ≤ 15000) (hN : Nm w0) :
   Calls Tryd.prog 33 #[.slice p n c, av] w0 fun e w' => e = .returned (fBest q gs).dat ∧ Ext w0 w' := by
 have HF : Hid (FnC w0 (w0.heap.size + 4) (.func (.func 60) #[] #[.pointer (some ⟨w0.heap.size + 3, 0, none⟩), .pointer (some ⟨w0.heap.size, 0, none⟩), .pointer (some ⟨w0.heap.size + 2, 0, none⟩)]) encV V.ok (fun l W => Utm q w0.heap.size av l W)) := utm_fn q av hv w0 w0.heap.size (Nat.le_refl _)
 have H0 : Hid (RdA w0.heap.size w0 (.slice p n c) gs ∧ AgI gs ∧ (seen gs).length ≤ 15000 ∧ gs.length ≤ 15000 ∧ Nm w0) := ⟨hA, hI, hlen, hal, hN⟩
 obtain ⟨K, rfl, _, _⟩ := hv
 clear hA hI hlen hal hN
 go_enter Tryd.func33, Tryd.ntmps33
 go_wp2_with fail
 generalize hW3 : (((w0.alloc _).alloc _).alloc _).alloc _ = W3
 have z3 : W3.heap.size = w0.heap.size + 4 := by rw [← hW3]; simp
 have E3 : Ext w0 W3 := by rw [← hW3]; exact ((((Ext.refl _).alloc _).alloc _).alloc _).alloc _
 have HT : Utm q w0.heap.size (.func (.func K) #[] #[]) [] W3 := by
   refine ⟨by omega, ?_, ?_, ?_, ?_, ?_, ?_, ?_⟩
   · rw [← hW3]; simp [go_sem]
   · rw [← hW3]; simp [go_sem, bestN]
   · rw [← hW3]; simp [go_sem]
   · rw [← hW3]; simp [go_sem]
   · rw [← hW3]; simp [go_sem]
   · rw [← hW3]; exact blk_top (by simp) (((Ext.refl _).alloc _).alloc _)
   · rw [← hW3]; exact Own4.at (by simp) (by decide) (((Ext.refl _).alloc _).alloc _)
 refine (through_any w0 gs _ _ numF (fun l W => Utm q w0.heap.size (.func (.func K) #[] #[]) l W) W3 p n c (turn_number w0 H0.out.2.2.2.2) (by rw [z3]; exact HF.out) numF_okk (H0.out.1.low (Below.mono E3 (Nat.le_refl _))) H0.out.2.1 H0.out.2.2.1 H0.out.2.2.2.1 HT E3 H0.out.2.2.2.2).mono ?_
 rintro e w4 ⟨rfl, T4, X4⟩
 have HX4 : Hid (Ext w0 w4) := X4
 obtain ⟨tz, ta, tb, tc, tf2, tf3, tr, tow⟩ := T4
 have HB4 : Hid (Blk w4 (w0.heap.size + 1) (.int .i64 0) (.int .i64 0) (.string ⟨#[]⟩) (.int .i64 0)) := tr
 obtain ⟨c0z, ⟨c0_0, c0_1, c0_2, c0_3⟩, c0f0, c0f1, c0f2, c0f3⟩ := tr
 have HR : Hid (fBest q gs = if (bad numF (seen gs)).k = 4 then bad numF (seen gs) else mkNum (bestN q (got numF (seen gs)))) := rfl
 have HD : Hid ((bad numF (seen gs)).dat = .agg #[.int .i64 (bad numF (seen gs)).k, .int .i64 (bad numF (seen gs)).n, .string (bad numF (seen gs)).s, .int .i64 (bad numF (seen gs)).e]) := dat_eq _
 have hD := dat_eq (bad numF (seen gs))
 obtain ⟨zk, hzk⟩ : ∃ r, (bad numF (seen gs)).k = r := ⟨_, rfl⟩
 obtain ⟨zn, hzn⟩ : ∃ r, (bad numF (seen gs)).n = r := ⟨_, rfl⟩
 obtain ⟨zs', hzs⟩ : ∃ r, (bad numF (seen gs)).s = r := ⟨_, rfl⟩
 obtain ⟨ze, hze⟩ : ∃ r, (bad numF (seen gs)).e = r := ⟨_, rfl⟩
 rw [hzk, hzn, hzs, hze] at HD hD
 rw [hzk] at HR
 obtain ⟨bb, hbb⟩ : ∃ r, bestN q (got numF (seen gs)) = r := ⟨_, rfl⟩
 rw [hbb] at tb HR
 rw [hD]
 have tz2 : w0.heap.size + 2 < w4.heap.size := by omega
 clear hzk hzn hzs hze hD hbb hW3 z3 E3 HT X4 tz ta tc tf2 tf3 tow HF
 by_cases h4 : zk = 4
 · have e4 : (zk == 4) = true := by simpa using h4
   have HZ : Hid (fBest q gs = bad numF (seen gs)) := by show _ = _; rw [HR.out, if_pos h4]
   clear h4 HR tb tz2
   go_wp2_with fail
   exact finB ((HB4.out.set _ _ _ _).al _) rfl (((((HX4.out.setCell (by simp) _).setCell (by simp) _).setCell (by simp) _).setCell (by simp) _).alloc _) (fun g0 g1 g2 g3 => by simp [results, Tryd.results33, go_sem, g0, g1, g2, g3]) (fun h => ⟨by rw [HZ.out, HD.out], h⟩)
 · have e4 : (zk == 4) = false := by simpa using h4
   have HZ : Hid (fBest q gs = mkNum bb) := by show _ = _; rw [HR.out, if_neg h4]
   have cN := fun W h => vnum_any bb W h
   obtain ⟨q0, q1, q2, q3, hq⟩ := dat4 (mkNum bb)
   rw [hq] at cN
   have HQ : Hid ((mkNum bb).dat = .agg #[.int .i64 q0, .int .i64 q1, .string q2, .int .i64 q3]) := hq
   clear h4 HR hq
   go_wp2_with fail
   refine (cN _ (H0.out.2.2.2.2.ext (HX4.out.alloc _))).mono ?_
   rintro e w5 ⟨rfl, E5⟩
   have HB5 : Hid (Blk w5 (w0.heap.size + 1) (.int .i64 0) (.int .i64 0) (.string ⟨#[]⟩) (.int .i64 0)) := (HB4.out.al _).ext E5
   have HX5 : Hid (Ext w0 w5) := (HX4.out.alloc _).trans E5
   clear c0z c0_0 c0_1 c0_2 c0_3 c0f0 c0f1 c0f2 c0f3 tb tz2 E5
   obtain ⟨c0z, ⟨c0_0, c0_1, c0_2, c0_3⟩, c0f0, c0f1, c0f2, c0f3⟩ := HB5.out
   go_wp2_with fail
   exact finB (HB5.out.set _ _ _ _) rfl ((((HX5.out.setCell (by simp) _).setCell (by simp) _).setCell (by simp) _).setCell (by simp) _) (fun g0 g1 g2 g3 => by simp [results, Tryd.results33, go_sem, g0, g1, g2, g3]) (fun h => ⟨by rw [HZ.out, HQ.out], h⟩)

open Go.RowKit
set_option maxHeartbeats 1000000

theorem Pair.put {w : World} {b : Nat} {x : Int} (h : Pair w b x) (y : Int) (hu : uhi y = uhi x) : Pair (w.setCell ⟨b, 1, none⟩ (.int .u64 (loOf y))) b y := by
 obtain ⟨z, c0, c1, f0, f1⟩ := h
 refine ⟨by simpa [World.setCell] using z, ?_, ?_, ?_, ?_⟩
 · rw [World.cell?_setCell_other _ _ _ _ (by simp), hu]; exact c0
 · exact World.cell?_setCell_same _ ⟨b, 1, none⟩ _ (by rw [c1])
 · rw [World.frozen?_setCell]; exact f0
 · rw [World.frozen?_setCell]; exact f1
/-- What stands still while the division goes on. -/
def Keep (w : World) (X D : Int) (wr : World) : Prop := Ext w wr ∧ Pair wr w.heap.size X ∧ Pair wr (w.heap.size + 1) D ∧ Pair wr (w.heap.size + 2) 0 ∧ Pair wr (w.heap.size + 3) 0
theorem Keep.ext {w W W' : World} {X D : Int} (h : Keep w X D W) (e : Ext W W') : Keep w X D W' :=
 ⟨h.1.trans e, h.2.1.ext e, h.2.2.1.ext e, h.2.2.2.1.ext e, h.2.2.2.2.ext e⟩
theorem Keep.far {w W : World} {X D : Int} (h : Keep w X D W) {c : Nat} (hc : w.heap.size + 4 ≤ c) (o : Nat) (v : Value) : Keep w X D (W.setCell ⟨c, o, none⟩ v) :=
 ⟨h.1.setCell (by show w.heap.size ≤ c; omega) _, h.2.1.far (by omega) _ _, h.2.2.1.far (by omega) _ _, h.2.2.2.1.far (by omega) _ _, h.2.2.2.2.far (by omega) _ _⟩
theorem or_bit (x : Int) (t : Nat) (ht : t < 2) : bits .or .u64 (loOf (x * 2)) (t : Int) = loOf (x * 2 + t) := by
 obtain ⟨l, hl⟩ := Int.eq_ofNat_of_zero_le (lo_bd (x * 2)).1
 have b2 := (lo_bd (x * 2)).2
 have he : l % 2 = 0 := by unfold loOf at hl; omega
 obtain ⟨m, rfl⟩ : ∃ m, l = 2 * m := ⟨l / 2, by omega⟩
 rw [hl, or_even m t ht (by omega)]
 unfold loOf at hl ⊢
 omega
theorem uhi_bit (x : Int) (t : Nat) (ht : t < 2) : uhi (x * 2 + t) = uhi (x * 2) := by unfold uhi; omega
theorem bit_lo (X j : Nat) (hj : j < 64) : X % 18446744073709551616 / 2 ^ j % 2 = X / 2 ^ j % 2 := by
 have e : 18446744073709551616 = 2 ^ j * 2 ^ (64 - j) := by rw [← Nat.pow_add, show j + (64 - j) = 64 from by omega]
 rw [e, Nat.mod_mul_right_div_self]
 obtain ⟨i, hi⟩ : ∃ i, 64 - j = i + 1 := ⟨63 - j, by omega⟩
 rw [hi, Nat.pow_succ]
 exact Nat.mod_mul_left_mod _ _ _
theorem bit_hi (X i : Nat) : X / 18446744073709551616 / 2 ^ i % 2 = X / 2 ^ (i + 64) % 2 := by
 rw [Nat.div_div_eq_div_mul]
 have : 18446744073709551616 * 2 ^ i = 2 ^ (i + 64) := by rw [Nat.pow_add, Nat.mul_comm]
 rw [this]
/-- One step of the division. -/
theorem div_no (Z D t : Nat) (hD : 0 < D) (h : Z % D * 2 + t < D) : (2 * Z + t) / D = Z / D * 2 ∧ (2 * Z + t) % D = Z % D * 2 + t := by
 have e := Nat.div_add_mod Z D
 have : 2 * Z + t = (Z % D * 2 + t) + D * (Z / D * 2) := by rw [Nat.mul_comm (Z / D) 2, ← Nat.mul_assoc, Nat.mul_comm D 2, Nat.mul_assoc]; omega
 rw [this, Nat.add_mul_div_left _ _ hD, Nat.add_mul_mod_self_left, Nat.div_eq_of_lt h, Nat.mod_eq_of_lt h, Nat.zero_add]
 exact ⟨rfl, rfl⟩
theorem div_yes (Z D t : Nat) (hD : 0 < D) (ht : t < 2) (h : D ≤ Z % D * 2 + t) : (2 * Z + t) / D = Z / D * 2 + 1 ∧ (2 * Z + t) % D = Z % D * 2 + t - D := by
 have e := Nat.div_add_mod Z D
 have l := Nat.mod_lt Z hD
 have hl : Z % D * 2 + t - D < D := by omega
 have : 2 * Z + t = (Z % D * 2 + t - D) + D * (Z / D * 2 + 1) := by
   rw [Nat.mul_add, Nat.mul_one, Nat.mul_comm (Z / D) 2, ← Nat.mul_assoc, Nat.mul_comm D 2, Nat.mul_assoc]; omega
 rw [this, Nat.add_mul_div_left _ _ hD, Nat.add_mul_mod_self_left, Nat.div_eq_of_lt hl, Nat.mod_eq_of_lt hl, Nat.zero_add]
 exact ⟨rfl, rfl⟩
theorem ebit_lo (X j : Nat) (hj : j < 64) : bits .and .u64 (loOf (X : Int) / 2 ^ j) 1 = ((X / 2 ^ j % 2 : Nat) : Int) := by
 have e : loOf (X : Int) = ((X % 18446744073709551616 : Nat) : Int) := by unfold loOf; omega
 have f : ((X % 18446744073709551616 : Nat) : Int) / 2 ^ j = ((X % 18446744073709551616 / 2 ^ j : Nat) : Int) := by simp
 rw [e, f, and_one _ (Nat.lt_of_le_of_lt (Nat.div_le_self _ _) (Nat.mod_lt _ (by decide))), bit_lo X j hj]
theorem ebit_hi (X i : Nat) (hX : X < 340282366920938463463374607431768211456) : bits .and .u64 (uhi (X : Int) / 2 ^ i) 1 = ((X / 2 ^ (i + 64) % 2 : Nat) : Int) := by
 have e : uhi (X : Int) = ((X / 18446744073709551616 : Nat) : Int) := by unfold uhi; omega
 have f : ((X / 18446744073709551616 : Nat) : Int) / 2 ^ i = ((X / 18446744073709551616 / 2 ^ i : Nat) : Int) := by simp
 rw [e, f, and_one _ (Nat.lt_of_le_of_lt (Nat.div_le_self _ _) (by omega)), bit_hi X i]
theorem divide_any (X D : Nat) (hX : X < 340282366920938463463374607431768211456) (hD : 0 < D) (hD' : D < 170141183460469231731687303715884105728) (w : World) :
   Calls Tryd.prog 65 #[.agg #[.int .u64 (uhi X), .int .u64 (loOf X)], .agg #[.int .u64 (uhi D), .int .u64 (loOf D)]] w fun e w' =>
     e = .returned (.tuple #[.agg #[.int .u64 (uhi ((X / D : Nat) : Int)), .int .u64 (loOf ((X / D : Nat) : Int))], .agg #[.int .u64 (uhi ((X % D : Nat) : Int)), .int .u64 (loOf ((X % D : Nat) : Int))]]) ∧ Ext w w' := by
 have u0 : uhi 0 = 0 := by decide
 have l0 : loOf 0 = 0 := by decide
 obtain ⟨a1, a2⟩ := uhi_bd X; obtain ⟨a3, a4⟩ := lo_bd X
 have HX : Hid (X < 340282366920938463463374607431768211456) := hX
 have HD' : Hid (D < 170141183460469231731687303715884105728) := hD'
 have HD : Hid (0 < D) := hD
 clear hX hD hD'
 go_enter Tryd.func65, Tryd.ntmps65
 go_wp2
 go_loopw [8, 9] (fun i _ wr => ∃ k : Nat, k ≤ 128 ∧ i = .int .i64 ((k : Int) - 1) ∧ Keep w X D wr ∧ Pair wr (w.heap.size + 4) ((X / 2 ^ k / D : Nat) : Int) ∧ Pair wr (w.heap.size + 5) ((X / 2 ^ k % D : Nat) : Int)) (fun i _ _ => (intOf i + 1).toNat)
 case atStart =>
   have h0 : X / 2 ^ 128 = 0 := Nat.div_eq_of_lt HX.out
   refine ⟨128, Nat.le_refl _, rfl, ⟨?_, ?_, ?_, ?_, ?_⟩, ?_, ?_⟩
   · repeat (first | exact Ext.refl _ | apply Ext.alloc)
   · simp [Pair, go_sem, World.cell?_alloc_past]
   · simp [Pair, go_sem, World.cell?_alloc_past]
   · simp [Pair, u0, l0, go_sem, World.cell?_alloc_past]
   · simp [Pair, u0, l0, go_sem, World.cell?_alloc_past]
   · rw [h0, Nat.zero_div]; simp [Pair, u0, l0, go_sem, World.cell?_alloc_past]
   · rw [h0, Nat.zero_mod]; simp [Pair, u0, l0, go_sem]
 case round =>
   obtain ⟨k, hk, rfl, hK, hq, hr⟩ := hrel
   rcases Nat.eq_zero_or_pos k with rfl | hk0
   · rw [Nat.pow_zero, Nat.div_one] at hq hr
     have hE := hK.1
     obtain ⟨q1, q2, q3, q4, q5⟩ := hq
     obtain ⟨r1, r2, r3, r4, r5⟩ := hr
     obtain ⟨m1, m2, m3, m4, m5⟩ := hK.2.2.2.1
     obtain ⟨n1, n2, n3, n4, n5⟩ := hK.2.2.2.2
     obtain ⟨Qh, hQh⟩ : ∃ v, v = uhi ((X / D : Nat) : Int) := ⟨_, rfl⟩
     obtain ⟨Ql, hQl⟩ : ∃ v, v = loOf ((X / D : Nat) : Int) := ⟨_, rfl⟩
     obtain ⟨Rh, hRh⟩ : ∃ v, v = uhi ((X % D : Nat) : Int) := ⟨_, rfl⟩
     obtain ⟨Rl, hRl⟩ : ∃ v, v = loOf ((X % D : Nat) : Int) := ⟨_, rfl⟩
     rw [← hQh] at q2; rw [← hQl] at q3; rw [← hRh] at r2; rw [← hRl] at r3
     rw [Int.natCast_ediv] at hQh hQl
     rw [Int.natCast_emod] at hRh hRl
     have HH : Hid ((Qh = uhi ((X : Int) / D) ∧ Ql = loOf ((X : Int) / D)) ∧ Rh = uhi ((X : Int) % D) ∧ Rl = loOf ((X : Int) % D)) := ⟨⟨hQh, hQl⟩, hRh, hRl⟩
     clear hK hQh hQl hRh hRl
     go_wp2
     go_region
     all_goals
       go_wp2
       simp [bodyPost, results, Tryd.results65, go_sem, *]
       refine ⟨HH.out, ?_⟩
       repeat (first | exact hE | apply Ext.drew | refine Ext.setCell ?_ (by first | (simp; done) | (simp; omega)) _)
   · obtain ⟨j, rfl⟩ : ∃ j, k = j + 1 := ⟨k - 1, by omega⟩
     have ej : (((j + 1 : Nat) : Int) - 1) = (j : Int) := by omega
     rw [ej]
     clear ej hk0
     have hj : j < 128 := by omega
     have hjI : (j : Int) < 128 := by omega
     clear hk
     obtain ⟨t, ht⟩ : ∃ t, t = X / 2 ^ j % 2 := ⟨_, rfl⟩
     have ht2 : t < 2 := by omega
     have hZ := half_step X j
     rw [← ht] at hZ
     generalize hZe : X / 2 ^ (j + 1) = Z at *
     have cR := fun W => up_w ((Z % D : Nat) : Int) W
     have cQ := fun W => up_w ((Z / D : Nat) : Int) W
     have hrl := Nat.mod_lt Z HD.out
     have eb := or_bit ((Z % D : Nat) : Int) t ht2
     have hub := uhi_bit ((Z % D : Nat) : Int) t ht2
     have cC := fun W => cmp_w (((Z % D : Nat) : Int) * 2 + t) D (by omega) (by have := HD'.out; omega) (by omega) (by have := HD'.out; omega) W
     have cM := fun W => minusW_w (((Z % D : Nat) : Int) * 2 + t) D W
     have hstep : (D ≤ Z % D * 2 + t → X / 2 ^ j / D = Z / D * 2 + 1 ∧ X / 2 ^ j % D = Z % D * 2 + t - D) ∧ (Z % D * 2 + t < D → X / 2 ^ j / D = Z / D * 2 ∧ X / 2 ^ j % D = Z % D * 2 + t) :=
       ⟨fun h => by rw [hZ]; exact div_yes Z D t HD.out ht2 h, fun h => by rw [hZ]; exact div_no Z D t HD.out h⟩
     have HS : Hid _ := hstep
     have HT : Hid (t = X / 2 ^ j % 2) := ht
     have HZ : Hid (X / 2 ^ j = 2 * Z + t) := hZ
     generalize hR : Z % D = R at *
     generalize hQ : Z / D = Q at *
     clear hstep ht hZ hZe hR hQ hrl
     obtain ⟨r, hrI⟩ : ∃ r : Int, r = R := ⟨_, rfl⟩
     obtain ⟨q, hqI⟩ : ∃ q : Int, q = Q := ⟨_, rfl⟩
     obtain ⟨tI, htI⟩ : ∃ tI : Int, tI = t := ⟨_, rfl⟩
     obtain ⟨dI, hdI⟩ : ∃ dI : Int, dI = D := ⟨_, rfl⟩
     rw [← hrI] at hr cR eb hub cC cM
     rw [← htI] at eb hub cC cM
     rw [← hdI] at cC cM hK
     rw [← hqI] at hq cQ
     rw [hub] at cC cM
     have HUB : Hid (uhi (r * 2 + tI) = uhi (r * 2)) := hub
     have HI : Hid (r = R ∧ q = Q ∧ tI = t ∧ dI = D) := ⟨hrI, hqI, htI, hdI⟩
     clear hrI hqI htI hdI
     obtain ⟨y1, y2, y3, y4, y5⟩ := hr
     have hr0 : Pair wr (w.heap.size + 5) r := ⟨y1, y2, y3, y4, y5⟩
     by_cases hj64 : j < 64
     · have b1 := ebit_lo X j hj64
       rw [← HT.out, ← HI.out.2.2.1] at b1
       have jm : (j : Int) % 64 = j := by omega
       have jl : ¬ (64 : Int) ≤ (j : Int) := by omega
       have jd : decide ((64 : Int) ≤ (j : Int)) = false := decide_eq_false jl
       go_wp2_with fail
       refine (cR _).mono ?_
       rintro e w1 ⟨rfl, E1⟩
       have hr1 := hr0.ext E1
       have HR1 : Hid (Pair w1 (w.heap.size + 5) r) := hr1
       have HQ1 : Hid (Pair w1 (w.heap.size + 4) q) := hq.ext E1
       have hK1 := hK.ext E1
       have HK1 : Hid (Keep w X dI w1) := hK1
       obtain ⟨y1, y2, y3, y4, y5⟩ := hr1
       obtain ⟨z1, z2, z3, z4, z5⟩ := hK1.2.1
       obtain ⟨x1, x2, x3, x4, x5⟩ := HQ1.out
       clear hr0 hK hq hK1
       go_wp2_with fail
       refine (cQ _).mono ?_
       rintro e w2 ⟨rfl, E2⟩
       have HR2 : Hid (Pair w2 (w.heap.size + 5) (r * 2 + tI)) := ((HR1.out.set (r * 2)).put (r * 2 + tI) hub).ext E2
       have HQ2 : Hid (Pair w2 (w.heap.size + 4) q) := ((((HQ1.out.far (c := w.heap.size + 5) (by omega) _ _).far (c := w.heap.size + 5) (by omega) _ _).far (c := w.heap.size + 5) (by omega) _ _)).ext E2
       have HK2 : Hid (Keep w X dI w2) := ((((HK1.out.far (c := w.heap.size + 5) (by omega) _ _).far (c := w.heap.size + 5) (by omega) _ _).far (c := w.heap.size + 5) (by omega) _ _)).ext E2
       clear y1 y2 y3 y4 y5 z1 z2 z3 z4 z5 x1 x2 x3 x4 x5
       obtain ⟨y1, y2, y3, y4, y5⟩ := HR2.out
       obtain ⟨x1, x2, x3, x4, x5⟩ := HQ2.out
       obtain ⟨z1, z2, z3, z4, z5⟩ := HK2.out.2.2.1
       go_wp2_with fail
       refine (cC _).mono ?_
       rintro e w3 ⟨rfl, E3⟩
       have HR3 : Hid (Pair w3 (w.heap.size + 5) (r * 2 + tI)) := ((HR2.out.far (c := w.heap.size + 4) (by omega) _ _).far (c := w.heap.size + 4) (by omega) _ _).ext E3
       have HQ3 : Hid (Pair w3 (w.heap.size + 4) (q * 2)) := (HQ2.out.set (q * 2)).ext E3
       have HK3 : Hid (Keep w X dI w3) := ((HK2.out.far (c := w.heap.size + 4) (by omega) _ _).far (c := w.heap.size + 4) (by omega) _ _).ext E3
       clear y1 y2 y3 y4 y5 z1 z2 z3 z4 z5 x1 x2 x3 x4 x5
       obtain ⟨y1, y2, y3, y4, y5⟩ := HR3.out
       obtain ⟨x1, x2, x3, x4, x5⟩ := HQ3.out
       obtain ⟨z1, z2, z3, z4, z5⟩ := HK3.out.2.2.1
       by_cases hge : D ≤ R * 2 + t
       · obtain ⟨s1, s2⟩ := HS.out.1 hge
         have hc1 : decide (0 ≤ cmpI (r * 2 + tI) dI) = true := by
           obtain ⟨i1, i2, i3, i4⟩ := HI.out
           rw [decide_eq_true_eq]; unfold cmpI; rw [if_neg (by omega)]; split <;> omega
         have hc2 : 0 ≤ cmpI (r * 2 + tI) dI := by simpa using hc1
         have HG : Hid (D ≤ R * 2 + t) := hge
         have HS1 : Hid (X / 2 ^ j / D = Q * 2 + 1 ∧ X / 2 ^ j % D = R * 2 + t - D) := ⟨s1, s2⟩
         generalize cmpI (r * 2 + tI) dI = cc at *
         clear s1 s2 hge
         go_wp2_with fail
         refine (cM _).mono ?_
         rintro e w4 ⟨rfl, E4⟩
         have HR4 : Hid (Pair w4 (w.heap.size + 5) (r * 2 + tI)) := HR3.out.ext E4
         have HQ4 : Hid (Pair w4 (w.heap.size + 4) (q * 2)) := HQ3.out.ext E4
         have HK4 : Hid (Keep w X dI w4) := HK3.out.ext E4
         clear y1 y2 y3 y4 y5 z1 z2 z3 z4 z5 x1 x2 x3 x4 x5
         obtain ⟨y1, y2, y3, y4, y5⟩ := HR4.out
         obtain ⟨x1, x2, x3, x4, x5⟩ := HQ4.out
         have ob := or_bit q 1 (by omega)
         have obu := uhi_bit q 1 (by omega)
         have HOB : Hid (uhi (q * 2 + ((1 : Nat) : Int)) = uhi (q * 2)) := obu
         rw [show ((1 : Nat) : Int) = 1 from rfl] at ob
         clear obu
         go_wp2
         go_roundw
         case rel =>
           obtain ⟨i1, i2, i3, i4⟩ := HI.out
           have hge := HG.out
           refine ⟨j, by omega, rfl, ?_, ?_, ?_⟩
           · have := ((HK4.out.far (c := w.heap.size + 5) (by omega) 0 (.int .u64 (uhi (r * 2 + tI - dI)))).far (c := w.heap.size + 5) (by omega) 1 (.int .u64 (loOf (r * 2 + tI - dI)))).far (c := w.heap.size + 4) (by omega) 1 (.int .u64 (loOf (q * 2 + 1)))
             rw [i4] at this ⊢
             exact this
           · have e1 : ((X / 2 ^ j / D : Nat) : Int) = q * 2 + ((1 : Nat) : Int) := by rw [HS1.out.1]; omega
             rw [e1]
             exact ((HQ4.out.far (c := w.heap.size + 5) (by omega) _ _).far (c := w.heap.size + 5) (by omega) _ _).put _ HOB.out
           · have e1 : ((X / 2 ^ j % D : Nat) : Int) = r * 2 + tI - dI := by rw [HS1.out.2]; omega
             rw [e1]
             exact (HR4.out.set _).far (c := w.heap.size + 4) (by omega) _ _
         case measure => simp [intOf]
       · obtain ⟨s1, s2⟩ := HS.out.2 (by omega)
         have hc1 : decide (0 ≤ cmpI (r * 2 + tI) dI) = false := by
           obtain ⟨i1, i2, i3, i4⟩ := HI.out
           rw [decide_eq_false_iff_not]; unfold cmpI; rw [if_pos (by omega)]; omega
         have hc2 : ¬ 0 ≤ cmpI (r * 2 + tI) dI := by simpa using hc1
         have HS1 : Hid (X / 2 ^ j / D = Q * 2 ∧ X / 2 ^ j % D = R * 2 + t) := ⟨s1, s2⟩
         generalize cmpI (r * 2 + tI) dI = cc at *
         clear s1 s2 hge
         go_wp2
         go_roundw
         case rel =>
           obtain ⟨i1, i2, i3, i4⟩ := HI.out
           refine ⟨j, by omega, rfl, ?_, ?_, ?_⟩
           · have := HK3.out
             rw [i4] at this
             exact this
           · have e1 : ((X / 2 ^ j / D : Nat) : Int) = q * 2 := by rw [HS1.out.1]; omega
             rw [e1]
             exact HQ3.out
           · have e1 : ((X / 2 ^ j % D : Nat) : Int) = r * 2 + tI := by rw [HS1.out.2]; omega
             rw [e1]
             exact HR3.out
         case measure => simp [intOf]
     · obtain ⟨i, hi⟩ : ∃ i, j = i + 64 := ⟨j - 64, by omega⟩
       have b1 := ebit_hi X i HX.out
       rw [← hi, ← HT.out, ← HI.out.2.2.1] at b1
       have jm : (j : Int) % 64 = i := by omega
       have jl : (64 : Int) ≤ (j : Int) := by omega
       have jd : decide ((64 : Int) ≤ (j : Int)) = true := decide_eq_true jl
       have js : (j : Int) - 64 = i := by omega
       have ji : (i : Int) < 64 := by omega
       clear hi hj64
       go_wp2_with fail
       refine (cR _).mono ?_
       rintro e w1 ⟨rfl, E1⟩
       have hr1 := hr0.ext E1
       have HR1 : Hid (Pair w1 (w.heap.size + 5) r) := hr1
       have HQ1 : Hid (Pair w1 (w.heap.size + 4) q) := hq.ext E1
       have hK1 := hK.ext E1
       have HK1 : Hid (Keep w X dI w1) := hK1
       obtain ⟨y1, y2, y3, y4, y5⟩ := hr1
       obtain ⟨z1, z2, z3, z4, z5⟩ := hK1.2.1
       obtain ⟨x1, x2, x3, x4, x5⟩ := HQ1.out
       clear hr0 hK hq hK1
       go_wp2_with fail
       refine (cQ _).mono ?_
       rintro e w2 ⟨rfl, E2⟩
       have HR2 : Hid (Pair w2 (w.heap.size + 5) (r * 2 + tI)) := ((HR1.out.set (r * 2)).put (r * 2 + tI) hub).ext E2
       have HQ2 : Hid (Pair w2 (w.heap.size + 4) q) := ((((HQ1.out.far (c := w.heap.size + 5) (by omega) _ _).far (c := w.heap.size + 5) (by omega) _ _).far (c := w.heap.size + 5) (by omega) _ _)).ext E2
       have HK2 : Hid (Keep w X dI w2) := ((((HK1.out.far (c := w.heap.size + 5) (by omega) _ _).far (c := w.heap.size + 5) (by omega) _ _).far (c := w.heap.size + 5) (by omega) _ _)).ext E2
       clear y1 y2 y3 y4 y5 z1 z2 z3 z4 z5 x1 x2 x3 x4 x5
       obtain ⟨y1, y2, y3, y4, y5⟩ := HR2.out
       obtain ⟨x1, x2, x3, x4, x5⟩ := HQ2.out
       obtain ⟨z1, z2, z3, z4, z5⟩ := HK2.out.2.2.1
       go_wp2_with fail
       refine (cC _).mono ?_
       rintro e w3 ⟨rfl, E3⟩
       have HR3 : Hid (Pair w3 (w.heap.size + 5) (r * 2 + tI)) := ((HR2.out.far (c := w.heap.size + 4) (by omega) _ _).far (c := w.heap.size + 4) (by omega) _ _).ext E3
       have HQ3 : Hid (Pair w3 (w.heap.size + 4) (q * 2)) := (HQ2.out.set (q * 2)).ext E3
       have HK3 : Hid (Keep w X dI w3) := ((HK2.out.far (c := w.heap.size + 4) (by omega) _ _).far (c := w.heap.size + 4) (by omega) _ _).ext E3
       clear y1 y2 y3 y4 y5 z1 z2 z3 z4 z5 x1 x2 x3 x4 x5
       obtain ⟨y1, y2, y3, y4, y5⟩ := HR3.out
       obtain ⟨x1, x2, x3, x4, x5⟩ := HQ3.out
       obtain ⟨z1, z2, z3, z4, z5⟩ := HK3.out.2.2.1
       by_cases hge : D ≤ R * 2 + t
       · obtain ⟨s1, s2⟩ := HS.out.1 hge
         have hc1 : decide (0 ≤ cmpI (r * 2 + tI) dI) = true := by
           obtain ⟨i1, i2, i3, i4⟩ := HI.out
           rw [decide_eq_true_eq]; unfold cmpI; rw [if_neg (by omega)]; split <;> omega
         have hc2 : 0 ≤ cmpI (r * 2 + tI) dI := by simpa using hc1
         have HG : Hid (D ≤ R * 2 + t) := hge
         have HS1 : Hid (X / 2 ^ j / D = Q * 2 + 1 ∧ X / 2 ^ j % D = R * 2 + t - D) := ⟨s1, s2⟩
         generalize cmpI (r * 2 + tI) dI = cc at *
         clear s1 s2 hge
         go_wp2_with fail
         refine (cM _).mono ?_
         rintro e w4 ⟨rfl, E4⟩
         have HR4 : Hid (Pair w4 (w.heap.size + 5) (r * 2 + tI)) := HR3.out.ext E4
         have HQ4 : Hid (Pair w4 (w.heap.size + 4) (q * 2)) := HQ3.out.ext E4
         have HK4 : Hid (Keep w X dI w4) := HK3.out.ext E4
         clear y1 y2 y3 y4 y5 z1 z2 z3 z4 z5 x1 x2 x3 x4 x5
         obtain ⟨y1, y2, y3, y4, y5⟩ := HR4.out
         obtain ⟨x1, x2, x3, x4, x5⟩ := HQ4.out
         have ob := or_bit q 1 (by omega)
         have obu := uhi_bit q 1 (by omega)
         have HOB : Hid (uhi (q * 2 + ((1 : Nat) : Int)) = uhi (q * 2)) := obu
         rw [show ((1 : Nat) : Int) = 1 from rfl] at ob
         clear obu
         go_wp2
         go_roundw
         case rel =>
           obtain ⟨i1, i2, i3, i4⟩ := HI.out
           have hge := HG.out
           refine ⟨j, by omega, rfl, ?_, ?_, ?_⟩
           · have := ((HK4.out.far (c := w.heap.size + 5) (by omega) 0 (.int .u64 (uhi (r * 2 + tI - dI)))).far (c := w.heap.size + 5) (by omega) 1 (.int .u64 (loOf (r * 2 + tI - dI)))).far (c := w.heap.size + 4) (by omega) 1 (.int .u64 (loOf (q * 2 + 1)))
             rw [i4] at this ⊢
             exact this
           · have e1 : ((X / 2 ^ j / D : Nat) : Int) = q * 2 + ((1 : Nat) : Int) := by rw [HS1.out.1]; omega
             rw [e1]
             exact ((HQ4.out.far (c := w.heap.size + 5) (by omega) _ _).far (c := w.heap.size + 5) (by omega) _ _).put _ HOB.out
           · have e1 : ((X / 2 ^ j % D : Nat) : Int) = r * 2 + tI - dI := by rw [HS1.out.2]; omega
             rw [e1]
             exact (HR4.out.set _).far (c := w.heap.size + 4) (by omega) _ _
         case measure => simp [intOf]
       · obtain ⟨s1, s2⟩ := HS.out.2 (by omega)
         have hc1 : decide (0 ≤ cmpI (r * 2 + tI) dI) = false := by
           obtain ⟨i1, i2, i3, i4⟩ := HI.out
           rw [decide_eq_false_iff_not]; unfold cmpI; rw [if_pos (by omega)]; omega
         have hc2 : ¬ 0 ≤ cmpI (r * 2 + tI) dI := by simpa using hc1
         have HS1 : Hid (X / 2 ^ j / D = Q * 2 ∧ X / 2 ^ j % D = R * 2 + t) := ⟨s1, s2⟩
         generalize cmpI (r * 2 + tI) dI = cc at *
         clear s1 s2 hge
         go_wp2
         go_roundw
         case rel =>
           obtain ⟨i1, i2, i3, i4⟩ := HI.out
           refine ⟨j, by omega, rfl, ?_, ?_, ?_⟩
           · have := HK3.out
             rw [i4] at this
             exact this
           · have e1 : ((X / 2 ^ j / D : Nat) : Int) = q * 2 := by rw [HS1.out.1]; omega
             rw [e1]
             exact HQ3.out
           · have e1 : ((X / 2 ^ j % D : Nat) : Int) = r * 2 + tI := by rw [HS1.out.2]; omega
             rw [e1]
             exact HR3.out
         case measure => simp [intOf]

open Go.RowKit
set_option maxHeartbeats 1000000

theorem uhi_small (x : Nat) (h : x < 18446744073709551616) : uhi (x : Int) = 0 := by unfold uhi; omega
theorem lo_small' (x : Nat) (h : x < 18446744073709551616) : loOf (x : Int) = x := by unfold loOf; omega
theorem near_w (X d : Nat) (hX : X < 340282366920938463463374607431768211456) (hd : 0 < d) (hd' : d < 18446744073709551616) (w : World) :
   Calls Tryd.prog 41 #[.agg #[.int .u64 (uhi X), .int .u64 (loOf X)], .int .u64 d] w fun e w' => e = .returned (.agg #[.int .u64 (uhi (nearQ X d)), .int .u64 (loOf (nearQ X d))]) ∧ Ext w w' := by
 have u0 : uhi 0 = 0 := by decide
 have l0 : loOf 0 = 0 := by decide
 have cD := fun W => divide_any X d hX hd (by omega) W
 have cU := fun W => up_w ((X % d : Nat) : Int) W
 have hrl := Nat.mod_lt X hd
 have cC := fun W => cmp_w (((X % d : Nat) : Int) * 2) d (by omega) (by omega) (by omega) (by omega) W
 have cP := fun W => plusW_w ((X / d : Nat) : Int) ((1 : Nat) : Int) W
 rw [uhi_small d hd', lo_small' d hd'] at cD cC
 rw [uhi_small 1 (by omega), lo_small' 1 (by omega)] at cP
 have HN : Hid (((nearQ X d : Nat) : Int) = if d ≤ 2 * (X % d) then ((X / d : Nat) : Int) + ((1 : Nat) : Int) else ((X / d : Nat) : Int)) := by
   show ((nearQ X d : Nat) : Int) = _
   unfold nearQ
   split <;> omega
 obtain ⟨u1, u2⟩ := uhi_bd X; obtain ⟨u3, u4⟩ := lo_bd X
 obtain ⟨q, hq⟩ : ∃ q : Int, q = ((X / d : Nat) : Int) := ⟨_, rfl⟩
 obtain ⟨r, hr⟩ : ∃ r : Int, r = ((X % d : Nat) : Int) := ⟨_, rfl⟩
 rw [← hq] at cP HN
 rw [← hr] at cU cC
 rw [← hq, ← hr] at cD
 rw [show ((1 : Nat) : Int) = 1 from rfl] at cP HN
 have HR : Hid (r = ((X % d : Nat) : Int)) := hr
 clear hq hr hrl hX
 by_cases hge : d ≤ 2 * (X % d)
 · have hN := HN.out
   rw [if_pos hge] at hN
   rw [hN]
   have hc1 : decide (0 ≤ cmpI (r * 2) d) = true := by
     rw [decide_eq_true_eq, HR.out]; unfold cmpI; rw [if_neg (by omega)]; split <;> omega
   have hc2 : 0 ≤ cmpI (r * 2) d := by simpa using hc1
   generalize cmpI (r * 2) d = cc at *
   clear hge hN hd hd'
   go_enter Tryd.func41, Tryd.ntmps41
   go_wp2_with fail
   refine (cD _).mono ?_
   rintro e w1 ⟨rfl, E1⟩
   have H1 : Hid (Pair w1 (w.heap.size + 1) 0) := Pair.ext (by simp [Pair, u0, l0, go_sem]) E1
   have X1 : Hid (Ext w w1) := (((Ext.refl _).alloc _).alloc _).trans E1
   have hz := E1.sz
   clear E1
   go_wp2_with fail
   refine (cU _).mono ?_
   rintro e w2 ⟨rfl, E2⟩
   have HQ2 : Hid (Pair w2 w1.heap.size q) := Pair.ext (by simp [Pair, go_sem, World.cell?_alloc_past]) E2
   have H2 : Hid (Pair w2 (w.heap.size + 1) 0) := ((H1.out.ext ((Ext.refl _).alloc _)).ext ((Ext.refl _).alloc _)).ext E2
   have X2 : Hid (Ext w w2) := ((X1.out.alloc _).alloc _).trans E2
   have hne : ¬ w1.heap.size = w.heap.size + 1 := by simp at hz; omega
   clear E2
   go_wp2_with fail
   refine (cC _).mono ?_
   rintro e w3 ⟨rfl, E3⟩
   have HQ3 : Hid (Pair w3 w1.heap.size q) := HQ2.out.ext E3
   have H3 : Hid (Pair w3 (w.heap.size + 1) 0) := H2.out.ext E3
   have X3 : Hid (Ext w w3) := X2.out.trans E3
   have hsz : w.heap.size ≤ w1.heap.size := X1.out.sz
   clear E3
   obtain ⟨x1, x2, x3, x4, x5⟩ := HQ3.out
   obtain ⟨y1, y2, y3, y4, y5⟩ := H3.out
   go_wp2_with fail
   refine (cP _).mono ?_
   rintro e w4 ⟨rfl, E4⟩
   have HQ4 : Hid (Pair w4 w1.heap.size q) := HQ3.out.ext E4
   have H4 : Hid (Pair w4 (w.heap.size + 1) 0) := H3.out.ext E4
   have X4 : Hid (Ext w w4) := X3.out.trans E4
   clear E4 x1 x2 x3 x4 x5 y1 y2 y3 y4 y5
   obtain ⟨x1, x2, x3, x4, x5⟩ := HQ4.out
   obtain ⟨y1, y2, y3, y4, y5⟩ := H4.out
   go_wp2
   simp [bodyPost, results, Tryd.results41, go_sem, *]
   exact (((X4.out.setCell hsz _).setCell hsz _).setCell (by simp) _).setCell (by simp) _
 · have hN := HN.out
   rw [if_neg hge] at hN
   rw [hN]
   have hc1 : decide (0 ≤ cmpI (r * 2) d) = false := by
     rw [decide_eq_false_iff_not, HR.out]; unfold cmpI; rw [if_pos (by omega)]; omega
   have hc2 : ¬ 0 ≤ cmpI (r * 2) d := by simpa using hc1
   generalize cmpI (r * 2) d = cc at *
   clear hge hN hd hd'
   go_enter Tryd.func41, Tryd.ntmps41
   go_wp2_with fail
   refine (cD _).mono ?_
   rintro e w1 ⟨rfl, E1⟩
   have H1 : Hid (Pair w1 (w.heap.size + 1) 0) := Pair.ext (by simp [Pair, u0, l0, go_sem]) E1
   have X1 : Hid (Ext w w1) := (((Ext.refl _).alloc _).alloc _).trans E1
   have hz := E1.sz
   clear E1
   go_wp2_with fail
   refine (cU _).mono ?_
   rintro e w2 ⟨rfl, E2⟩
   have HQ2 : Hid (Pair w2 w1.heap.size q) := Pair.ext (by simp [Pair, go_sem, World.cell?_alloc_past]) E2
   have H2 : Hid (Pair w2 (w.heap.size + 1) 0) := ((H1.out.ext ((Ext.refl _).alloc _)).ext ((Ext.refl _).alloc _)).ext E2
   have X2 : Hid (Ext w w2) := ((X1.out.alloc _).alloc _).trans E2
   have hne : ¬ w1.heap.size = w.heap.size + 1 := by simp at hz; omega
   clear E2
   go_wp2_with fail
   refine (cC _).mono ?_
   rintro e w3 ⟨rfl, E3⟩
   have HQ3 : Hid (Pair w3 w1.heap.size q) := HQ2.out.ext E3
   have H3 : Hid (Pair w3 (w.heap.size + 1) 0) := H2.out.ext E3
   have X3 : Hid (Ext w w3) := X2.out.trans E3
   have hsz : w.heap.size ≤ w1.heap.size := X1.out.sz
   clear E3
   obtain ⟨x1, x2, x3, x4, x5⟩ := HQ3.out
   obtain ⟨y1, y2, y3, y4, y5⟩ := H3.out
   go_wp2
   simp [bodyPost, results, Tryd.results41, go_sem, *]
   exact (X3.out.setCell (by simp) _).setCell (by simp) _

end Go.Proofs.YtiahgalhemljnaaDoor
