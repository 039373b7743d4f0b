/-
 The contracts of package value's ToText, ToBool, Neg.
 Package fold: number, truth; through.
 Package fold: through.
 Package fold: total, poll, utmost: variables that a function value turns.
-/
import Derived.Test.YtiahgalhemljnaaDoorR11
import Derived.Test.YtiahgalhemljnaaDoorR10
import Derived.Test.YtiahgalhemljnaaDoorR2
namespace Go.Proofs.YtiahgalhemljnaaDoor
open Go.RowKit
set_option maxHeartbeats 1000000

open Go.RowKit
set_option maxHeartbeats 1000000

theorem I64.z : I64 0 := ⟨by decide, by decide⟩
theorem nm_of (x : V) (h : x.ok) : nm x.k x.n x.s x.e = x ∧ I64 x.n := by
 cases x with
 | blank => exact ⟨rfl, by decide, by decide⟩
 | tf b => cases b <;> exact ⟨rfl, by decide, by decide⟩
 | num n => exact ⟨mkNum_is h.2, h.1⟩
 | text s => exact ⟨mkText_is h, I64.z⟩
 | err e => exact ⟨mkErr_is h, I64.z⟩
set_option maxRecDepth 100000 in
theorem number_any (x : V) (a : Bool) (W : World) (hN : Nm W) (hx : x.ok) : Calls Tryd.prog 45 #[x.dat, .bool a] W fun e w' => e = .returned (numF x a).dat ∧ Ext W w' := by
 cases a with
 | false =>
   have c0 := fun W h => vtonum_any x.k x.n x.s x.e W (nm_of x hx).2 h
   rw [(nm_of x hx).1] at c0
   have H : Hid (numF x false = x.toNum) := rfl
   rw [dat_eq x]
   obtain ⟨q0, q1, q2, q3, hq⟩ := dat4 x.toNum
   rw [hq] at c0
   have HQ : Hid (x.toNum.dat = .agg #[.int .i64 q0, .int .i64 q1, .string q2, .int .i64 q3]) := hq
   clear hq hx
   generalize x.k = xk at *
   generalize x.n = xn at *
   generalize x.s = xs at *
   generalize x.e = xe at *
   go_enter Tryd.func45, Tryd.ntmps45
   go_wp2_with fail
   refine (c0 _ (hN.ext (((Ext.refl _).alloc _).alloc _))).mono ?_
   rintro e w1 ⟨rfl, E1⟩
   obtain ⟨z, ⟨k0, k1, k2, k3⟩, f0, f1, f2, f3⟩ := blk_top (b := W.heap.size + 1) (by simp) E1
   go_wp2_with fail
   exact fin4 k0 k1 k2 k3 rfl (by simp) ((((Ext.refl _).alloc _).alloc _).trans E1) (fun W g0 g1 g2 g3 => by simp [results, Tryd.results45, go_sem, g0, g1, g2, g3]) (fun W h => ⟨by rw [H.out, HQ.out], h⟩)
 | true =>
   clear hN
   have X2 : Hid (∀ o1 o2, Ext W ((W.alloc o1).alloc o2)) := fun o1 o2 => ((Ext.refl _).alloc _).alloc _
   cases x with
   | blank =>
     clear hx
     simp only [V.dat, numF, if_true]
     go_enter Tryd.func45, Tryd.ntmps45
     go_wp2_with fail
     simp [bodyPost, results, Tryd.results45, go_sem]
     exact X2.out _ _
   | tf b =>
     clear hx
     simp only [V.dat, numF, if_true]
     generalize (if b = true then (1 : Int) else 0) = bn
     go_enter Tryd.func45, Tryd.ntmps45
     go_wp2_with fail
     simp [bodyPost, results, Tryd.results45, go_sem]
     exact X2.out _ _
   | num n =>
     clear hx
     simp only [V.dat, numF, if_true]
     go_enter Tryd.func45, Tryd.ntmps45
     go_wp2_with fail
     simp [bodyPost, results, Tryd.results45, go_sem]
     exact X2.out _ _
   | text s =>
     clear hx
     simp only [V.dat, numF, if_true]
     go_enter Tryd.func45, Tryd.ntmps45
     go_wp2_with fail
     simp [bodyPost, results, Tryd.results45, go_sem]
     exact X2.out _ _
   | err e =>
     clear hx
     simp only [V.dat, numF, if_true]
     go_enter Tryd.func45, Tryd.ntmps45
     go_wp2_with fail
     simp [bodyPost, results, Tryd.results45, go_sem]
     exact X2.out _ _
/-- A function value that turns values. -/
def TurnC (w0 : World) (v : Value) (f : V → Bool → V) : Prop := ∃ K, v = .func (.func K) #[] #[] ∧ (∀ args W, (callFunc K args).run Tryd.prog W = .ok (.enter K args) W) ∧
 ∀ W x a, Ext w0 W → x.ok → Calls Tryd.prog K #[x.dat, .bool a] W fun e w' => e = .returned (f x a).dat ∧ Ext W w'
theorem turn_number (w0 : World) (hN : Nm w0) : TurnC w0 (.func (.func 45) #[] #[]) numF :=
 ⟨45, rfl, enters_of Tryd.func45 (by kernel_rfl) rfl, fun W x a e h => number_any x a W (hN.ext e) h⟩
def encV (x : V) : Array Value := #[x.dat]
theorem bad_snoc (f : V → Bool → V) (l : List (V × Bool)) (p : V × Bool) : bad f (l ++ [p]) = if (bad f l).k = 4 then bad f l else if (f p.1 p.2).k = 4 then f p.1 p.2 else .blank := bad_app f l [p]
theorem got_snoc (f : V → Bool → V) (l : List (V × Bool)) (p : V × Bool) : got f (l ++ [p]) = if goes (f p.1 p.2) then got f l ++ [f p.1 p.2] else got f l := by
 rw [got_app]
 show got f l ++ (if goes (f p.1 p.2) then [f p.1 p.2] else []) = _
 split
 · rfl
 · simp
/-- The variables of through: turn, see, failed. -/
structure Thr (w0 : World) (hi g : Nat) (tv sv : Value) (f : V → Bool → V) (P : List V → World → Prop) (l : List (V × Bool)) (W : World) : Prop where
 p : P (got f l) W
 t : W.cell? ⟨g, 0, none⟩ = some tv
 s : W.cell? ⟨g + 1, 0, none⟩ = some sv
 b : Blk W (g + 2) (.int .i64 (bad f l).k) (.int .i64 (bad f l).n) (.string (bad f l).s) (.int .i64 (bad f l).e)
 ot : Own4 W g
 os : Own4 W (g + 1)
 ob : Own4 W (g + 2)
theorem Blk.cells {W W' : World} {b : Nat} {x0 x1 x2 x3 : Value} (h : Blk W b x0 x1 x2 x3) (hs : W.heap.size ≤ W'.heap.size) (e : ∀ o, W'.cell? ⟨b, o, none⟩ = W.cell? ⟨b, o, none⟩ ∧ W'.frozen? ⟨b, o, none⟩ = W.frozen? ⟨b, o, none⟩) : Blk W' b x0 x1 x2 x3 := by
 obtain ⟨z, ⟨k0, k1, k2, k3⟩, f0, f1, f2, f3⟩ := h
 exact ⟨Nat.lt_of_lt_of_le z hs, ⟨(e 0).1.trans k0, (e 1).1.trans k1, (e 2).1.trans k2, (e 3).1.trans k3⟩, (e 0).2.trans f0, (e 1).2.trans f1, (e 2).2.trans f2, (e 3).2.trans f3⟩
theorem Own4.env {hi : Nat} {w w' : World} {b : Nat} (h : Own4 w b) (m : Env hi w w') (hb : b < hi) : Own4 w' b ∧ ∀ o, w'.cell? ⟨b, o, none⟩ = w.cell? ⟨b, o, none⟩ ∧ w'.frozen? ⟨b, o, none⟩ = w.frozen? ⟨b, o, none⟩ := by
 have e := m.1.block b hb
 exact ⟨⟨Nat.lt_of_lt_of_le h.1 m.1.size, fun r => h.2 ((RowB.same e).1 r)⟩, fun o => ⟨World.cell?_of_block (w := w) e, World.frozen?_of_block (w := w) e⟩⟩
theorem Thr.env {w0 : World} {hi g : Nat} {tv sv : Value} {f : V → Bool → V} {P : List V → World → Prop} {l : List (V × Bool)} {W W' : World} (hP : ∀ l W W', P l W → hi ≤ W.heap.size → Env hi W W' → P l W') (hg : hi ≤ g)
   (h : Thr w0 hi g tv sv f P l W) (hs : g + 3 ≤ W.heap.size) (e : Env (g + 3) W W') : Thr w0 hi g tv sv f P l W' := by
 obtain ⟨p, t, s, b, ot, os, ob⟩ := h
 obtain ⟨ot', et⟩ := ot.env e (by omega)
 obtain ⟨os', es⟩ := os.env e (by omega)
 obtain ⟨ob', eb⟩ := ob.env e (by omega)
 exact ⟨hP _ _ _ p (by omega) (e.down (by omega)), (et 0).1.trans t, (es 0).1.trans s, b.cells e.1.size eb, ot', os', ob'⟩
theorem Thr.mid {w0 : World} {hi g : Nat} {tv sv : Value} {f : V → Bool → V} {P : List V → World → Prop} {l l' : List (V × Bool)} {W W' : World} (hg : hi ≤ g)
   (h : Thr w0 hi g tv sv f P l W) (m : Mid w0.heap.size hi W W') (hp : P (got f l') W') (hb : bad f l' = bad f l) : Thr w0 hi g tv sv f P l' W' := by
 obtain ⟨p, t, s, b, ot, os, ob⟩ := h
 obtain ⟨ot', et⟩ := ot.mid m (by omega)
 obtain ⟨os', es⟩ := os.mid m (by omega)
 obtain ⟨ob', eb⟩ := ob.mid m (by omega)
 exact ⟨hp, (et 0).1.trans t, (es 0).1.trans s, by rw [hb]; exact b.cells m.1.size eb, ot', os', ob'⟩
theorem Own4.set {w : World} {b : Nat} (h : Own4 w b) (q : Addr) (v : Value) : Own4 (w.setCell q v) b := by
 refine ⟨by simpa [World.setCell] using h.1, fun r => h.2 ?_⟩
 obtain ⟨c, fz, r⟩ := r
 by_cases hq : b = q.block
 · subst hq
   simp only [World.setCell, Array.getElem?_modify, if_true] at r
   obtain ⟨o, ho, r⟩ := Option.map_eq_some_iff.1 r
   cases o with
   | cells cs t fr => cases r; exact ⟨_, _, ho⟩
   | _ => cases r
 · rw [Below.heap_setCell _ _ _ _ hq] at r
   exact ⟨c, fz, r⟩

open Go.RowKit
set_option maxHeartbeats 1000000

theorem Own4.at {w w' : World} {b : Nat} {c : Array Value} {T : TypeId} (hb : b = w.heap.size) (hT : T ≠ 5) (e : Ext (w.alloc (.cells c T)) w') : Own4 w' b := by subst hb; exact Own4.new hT e
theorem Env.set {hi : Nat} {w w' : World} (h : Env hi w w') {b : Nat} (hb : hi ≤ b) (ho : ¬ RowB w b) (o : Nat) (v : Value) : Env hi w (w'.setCell ⟨b, o, none⟩ v) :=
 ⟨h.1.setCell (p := ⟨b, o, none⟩) hb v, fun k hk => by rw [Below.heap_setCell _ _ _ _ (fun e => ho (by subst e; exact hk))]; exact h.2 k hk⟩
theorem Mid.set {lo hi : Nat} {w w' : World} (h : Mid lo hi w w') {b : Nat} (hb : lo ≤ b) (hb' : b < hi) (o : Nat) (v : Value) : Mid lo hi w (w'.setCell ⟨b, o, none⟩ v) :=
 ⟨h.1.setCell (p := ⟨b, o, none⟩) hb v, fun k h1 h2 h3 => by rw [Below.heap_setCell _ _ _ _ (by show k ≠ b; omega)]; exact h.2 k h1 h2 h3⟩
theorem not_row {w w' : World} {b : Nat} (e : Ext w w') (h : Own4 w b) : Own4 w' b :=
 ⟨Nat.lt_of_lt_of_le h.1 e.size, fun r => h.2 ((RowB.same (e.block b h.1)).1 r)⟩
/-- put4 -/
def put4 (w : World) (b : Nat) (x0 x1 x2 x3 : Value) : World := (((w.setCell ⟨b, 0, none⟩ x0).setCell ⟨b, 1, none⟩ x1).setCell ⟨b, 2, none⟩ x2).setCell ⟨b, 3, none⟩ x3
theorem Thr.put {w0 : World} {hi g : Nat} {tv sv : Value} {f : V → Bool → V} {P : List V → World → Prop} {l l' : List (V × Bool)} {W W' : World} (hg : hi ≤ g) (hP : ∀ l W W', P l W → hi ≤ W.heap.size → Env hi W W' → P l W')
   (h : Thr w0 hi g tv sv f P l W) (hz : g + 3 ≤ W.heap.size) (e : Ext W W') (hp : got f l' = got f l) (y : V) (hb : bad f l' = y) : Thr w0 hi g tv sv f P l' (put4 W' (g + 2) (.int .i64 y.k) (.int .i64 y.n) (.string y.s) (.int .i64 y.e)) := by
 obtain ⟨p, t, s, b, ot, os, ob⟩ := h
 have c1 := e.cell.1 g 0 (by omega)
 have c2 := e.cell.1 (g + 1) 0 (by omega)
 refine ⟨?_, ?_, ?_, ?_, ?_, ?_, ?_⟩
 · rw [hp]
   exact hP _ _ _ p (by omega) (((((e.env (by omega)).set (by omega) ob.2 _ _).set (by omega) ob.2 _ _).set (by omega) ob.2 _ _).set (by omega) ob.2 _ _)
 · unfold put4
   iterate 4 rw [World.cell?_setCell_far _ _ _ _ (by show g + 2 ≠ g; omega)]
   exact c1.trans t
 · unfold put4
   iterate 4 rw [World.cell?_setCell_far _ _ _ _ (by show g + 2 ≠ g + 1; omega)]
   exact c2.trans s
 · rw [hb]
   exact (b.ext e).set _ _ _ _
 · exact ((((not_row e ot).set _ _).set _ _).set _ _).set _ _
 · exact ((((not_row e os).set _ _).set _ _).set _ _).set _ _
 · exact ((((not_row e ob).set _ _).set _ _).set _ _).set _ _
set_option maxRecDepth 100000 in
theorem thr1_any (w0 : World) (hi g : Nat) (tv sv : Value) (f : V → Bool → V) (P : List V → World → Prop) (hT : TurnC w0 tv f) (hS : FnC w0 hi sv encV V.ok P) (hf : ∀ x a, x.ok → (f x a).ok) (hg : hi ≤ g) (hg0 : w0.heap.size ≤ g)
   (l : List (V × Bool)) (W : World) (x : V × Bool) (h : Thr w0 hi g tv sv f P l W) (hz : g + 3 ≤ W.heap.size) (hE : Ext w0 W) (hl : l.length ≤ 20000) (hx : okS x) :
   Calls Tryd.prog 73 (encS x ++ #[.pointer (some ⟨g, 0, none⟩), .pointer (some ⟨g + 1, 0, none⟩), .pointer (some ⟨g + 2, 0, none⟩)]) W fun e w' => e = .returned (.tuple #[]) ∧ Thr w0 hi g tv sv f P (l ++ [x]) w' ∧ Mid w0.heap.size (g + 3) W w' := by
 obtain ⟨v, a⟩ := x
 obtain ⟨Kt, rfl, entT, cT⟩ := hT
 obtain ⟨Ks, cs, rfl, entS, stS, cS⟩ := hS
 have ht := h.t
 have hs := h.s
 obtain ⟨zb, ⟨b0, b1, b2, b3⟩, f0, f1, f2, f3⟩ := h.b
 have HT : Hid (Thr w0 hi g (.func (.func Kt) #[] #[]) (.func (.func Ks) #[] cs) f P l W) := h
 have CT : Hid (∀ V, Ext w0 V → Calls Tryd.prog Kt #[.agg #[.int .i64 v.k, .int .i64 v.n, .string v.s, .int .i64 v.e], .bool a] V fun e w' => e = .returned (f v a).dat ∧ Ext V w') := fun V e => by have := cT V v a e hx; rw [dat_eq v] at this; exact this
 have hy := hf v a hx
 have hgl : (got f l).length ≤ 20000 := Nat.le_trans (got_len f l) hl
 have CS : Hid (∀ V, Ext W V → Calls Tryd.prog Ks (#[.agg #[.int .i64 (f v a).k, .int .i64 (f v a).n, .string (f v a).s, .int .i64 (f v a).e]] ++ cs) V fun e w' => e = .returned (.tuple #[]) ∧ P (got f l ++ [f v a]) w' ∧ Mid w0.heap.size hi V w') := fun V e => by
   have := cS (got f l) V (f v a) (stS _ _ _ h.p (by omega) (e.env (by omega))) (Nat.le_trans (by omega) e.size) (hE.trans e) hgl hy
   unfold encV at this
   rw [dat_eq (f v a)] at this
   exact this
 have HE : Hid (Ext w0 W ∧ g + 3 ≤ W.heap.size ∧ hi ≤ g ∧ w0.heap.size ≤ g) := ⟨hE, hz, hg, hg0⟩
 have ST : Hid (∀ l W W', P l W → hi ≤ W.heap.size → Env hi W W' → P l W') := stS
 have HB : Hid (bad f (l ++ [(v, a)]) = if (bad f l).k = 4 then bad f l else if (f v a).k = 4 then f v a else .blank) := bad_snoc f l (v, a)
 have HG : Hid (got f (l ++ [(v, a)]) = if goes (f v a) then got f l ++ [f v a] else got f l) := got_snoc f l (v, a)
 have HK : Hid (bad f l = .blank ∨ (bad f l).k = 4) := bad_kind f l
 rw [show encS (v, a) = #[v.dat, .bool a] from rfl, dat_eq v]
 rw [dat_eq (f v a)] at CT
 have hz2 : g < W.heap.size := by omega
 have hz3 : g + 1 < W.heap.size := by omega
 clear h cT cS stS hf hg hg0 hE hl hx hy hgl hz
 obtain ⟨vk, hvk⟩ : ∃ y, v.k = y := ⟨_, rfl⟩
 obtain ⟨vn, hvn⟩ : ∃ y, v.n = y := ⟨_, rfl⟩
 obtain ⟨vs, hvs⟩ : ∃ y, v.s = y := ⟨_, rfl⟩
 obtain ⟨ve, hve⟩ : ∃ y, v.e = y := ⟨_, rfl⟩
 rw [hvk, hvn, hvs, hve] at CT ⊢
 clear hvk hvn hvs hve
 obtain ⟨y, hy⟩ : ∃ y, f v a = y := ⟨_, rfl⟩
 rw [hy] at CT CS HB HG
 obtain ⟨z, hzz⟩ : ∃ z, bad f l = z := ⟨_, rfl⟩
 rw [hzz] at b0 b1 b2 b3 HB HK
 have HZ : Hid (bad f l = z) := hzz
 clear hy hzz
 obtain ⟨yk, hyk⟩ : ∃ q, y.k = q := ⟨_, rfl⟩
 obtain ⟨yn, hyn⟩ : ∃ q, y.n = q := ⟨_, rfl⟩
 obtain ⟨ys, hys⟩ : ∃ q, y.s = q := ⟨_, rfl⟩
 obtain ⟨ye, hye⟩ : ∃ q, y.e = q := ⟨_, rfl⟩
 have HY : Hid (y.k = yk ∧ y.n = yn ∧ y.s = ys ∧ y.e = ye) := ⟨hyk, hyn, hys, hye⟩
 rw [hyk, hyn, hys, hye] at CT CS
 clear hyk hyn hys hye
 go_enter Tryd.func73, Tryd.ntmps73
 go_wp2_with fail
 refine (CT.out _ (HE.out.1.alloc _)).mono ?_
 rintro e w1 ⟨rfl, E1⟩
 have X1 : Hid (Ext W w1) := ((Ext.refl _).alloc _).trans E1
 have B1 := blk_top (b := W.heap.size) (by simp) E1
 obtain ⟨c0z, ⟨c0_0, c0_1, c0_2, c0_3⟩, c0f0, c0f1, c0f2, c0f3⟩ := B1
 have e1 := X1.out.cell
 have d1 := (e1.1 (g + 1) 0 hz3).trans hs
 have d20 := (e1.1 (g + 2) 0 zb).trans b0
 have d21 := (e1.1 (g + 2) 1 zb).trans b1
 have d22 := (e1.1 (g + 2) 2 zb).trans b2
 have d23 := (e1.1 (g + 2) 3 zb).trans b3
 have g20 := (e1.2 (g + 2) 0 zb).trans f0
 have g21 := (e1.2 (g + 2) 1 zb).trans f1
 have g22 := (e1.2 (g + 2) 2 zb).trans f2
 have g23 := (e1.2 (g + 2) 3 zb).trans f3
 have zc : g + 1 < w1.heap.size := Nat.lt_of_lt_of_le hz3 X1.out.size
 have zd : g + 2 < w1.heap.size := Nat.lt_of_lt_of_le zb X1.out.size
 have X2 : Hid (Ext W (put4 w1 W.heap.size (.int .i64 yk) (.int .i64 yn) (.string ys) (.int .i64 ye))) := (((X1.out.setCell (Nat.le_refl _) _).setCell (Nat.le_refl _) _).setCell (Nat.le_refl _) _).setCell (Nat.le_refl _) _
 clear E1 e1 ht hs b0 b1 b2 b3 f0 f1 f2 f3
 have nG1 : g + 1 ≠ W.heap.size := by omega
 have nG2 : g + 2 ≠ W.heap.size := by omega
 by_cases h0 : yk = 0
 · have e0 : (yk == 0) = true := by simpa using h0
   have H2 : Hid (got f (l ++ [(v, a)]) = got f l ∧ bad f (l ++ [(v, a)]) = bad f l) := by
     have hk : y.k = 0 := HY.out.1.trans h0
     refine ⟨by rw [HG.out, if_neg (by simp [goes, hk])], ?_⟩
     rw [HB.out, HZ.out]
     rcases HK.out with k | k
     · rw [k, if_neg (by decide), if_neg (by rw [hk]; decide)]
     · rw [if_pos k]
   clear h0
   go_wp2_with fail
   go_end0
   refine ⟨rfl, ?_, ?_⟩
   · exact HT.out.mid HE.out.2.2.1 (X2.out.mid HE.out.1.size hi) (by rw [H2.out.1]; exact ST.out _ _ _ HT.out.p (by have := HE.out; omega) (X2.out.env (by have := HE.out; omega))) H2.out.2
   · exact X2.out.mid HE.out.1.size _
 have e0 : (yk == 0) = false := by simpa using h0
 by_cases h4 : yk = 4
 · have e4 : (yk != 4) = false := by simpa using h4
   by_cases hz4 : z.k = 4
   · have ez : (z.k == 0) = false := by rw [hz4]; rfl
     have H2 : Hid (got f (l ++ [(v, a)]) = got f l ∧ bad f (l ++ [(v, a)]) = bad f l) := by
       have hk : y.k = 4 := HY.out.1.trans h4
       refine ⟨by rw [HG.out, if_neg (by simp [goes, hk])], ?_⟩
       rw [HB.out, HZ.out, if_pos hz4]
     clear h0 h4 hz4
     generalize z.k = zk at *
     go_wp2_with fail
     go_end0
     refine ⟨rfl, ?_, ?_⟩
     · exact HT.out.mid HE.out.2.2.1 (X2.out.mid HE.out.1.size hi) (by rw [H2.out.1]; exact ST.out _ _ _ HT.out.p (by have := HE.out; omega) (X2.out.env (by have := HE.out; omega))) H2.out.2
     · exact X2.out.mid HE.out.1.size _
   · have hz0 : z = .blank := HK.out.resolve_right hz4
     have ez : (z.k == 0) = true := by rw [hz0]; rfl
     have H2 : Hid (got f (l ++ [(v, a)]) = got f l ∧ bad f (l ++ [(v, a)]) = y) := by
       have hk : y.k = 4 := HY.out.1.trans h4
       refine ⟨by rw [HG.out, if_neg (by simp [goes, hk])], ?_⟩
       rw [HB.out, if_neg hz4, if_pos hk]
     clear h0 h4 hz4 hz0
     generalize z.k = zk at *
     generalize z.n = zn at *
     generalize z.s = zs' at *
     generalize z.e = ze at *
     go_wp2_with fail
     go_end0
     refine ⟨rfl, ?_, ?_⟩
     · have q := HT.out.put HE.out.2.2.1 ST.out HE.out.2.1 X2.out H2.out.1 y H2.out.2
       rw [HY.out.1, HY.out.2.1, HY.out.2.2.1, HY.out.2.2.2] at q
       exact q
     · exact ((((X2.out.mid HE.out.1.size _).set (by have := HE.out; omega) (by omega) _ _).set (by have := HE.out; omega) (by omega) _ _).set (by have := HE.out; omega) (by omega) _ _).set (by have := HE.out; omega) (by omega) _ _
 · have e4 : (yk != 4) = true := by simpa using h4
   have H2 : Hid (got f (l ++ [(v, a)]) = got f l ++ [y] ∧ bad f (l ++ [(v, a)]) = bad f l) := by
     have hk : ¬ y.k = 4 := by rw [HY.out.1]; exact h4
     have hk0 : ¬ y.k = 0 := by rw [HY.out.1]; exact h0
     refine ⟨by rw [HG.out, if_pos (by simp [goes, hk, hk0])], ?_⟩
     rw [HB.out, HZ.out]
     rcases HK.out with k | k
     · rw [k, if_neg (by decide), if_neg hk]
     · rw [if_pos k]
   clear h0 h4
   go_wp2_with fail
   refine (CS.out _ X2.out).mono ?_
   rintro e w3 ⟨rfl, p3, m3⟩
   have M3 : Hid (Mid w0.heap.size hi W w3) := (X2.out.mid HE.out.1.size hi).trans m3
   have P3 : Hid (P (got f l ++ [y]) w3) := p3
   clear p3 m3
   go_wp2_with fail
   go_end0
   refine ⟨rfl, ?_, ?_⟩
   · exact HT.out.mid HE.out.2.2.1 M3.out (by rw [H2.out.1]; exact P3.out) H2.out.2
   · exact M3.out.wide (by have := HE.out; omega)
theorem ent_thr1 : ∀ args W, (callFunc 73 args).run Tryd.prog W = .ok (.enter 73 args) W := enters_of Tryd.func73 (by kernel_rfl) rfl
theorem thr_fn (w0 : World) (hi g : Nat) (tv sv : Value) (f : V → Bool → V) (P : List V → World → Prop) (hT : TurnC w0 tv f) (hS : FnC w0 hi sv encV V.ok P) (hf : ∀ x a, x.ok → (f x a).ok) (hg : hi ≤ g) (hg0 : w0.heap.size ≤ g) :
   FnC w0 (g + 3) (.func (.func 73) #[] #[.pointer (some ⟨g, 0, none⟩), .pointer (some ⟨g + 1, 0, none⟩), .pointer (some ⟨g + 2, 0, none⟩)]) encS okS (fun l W => Thr w0 hi g tv sv f P l W) := by
 refine ⟨_, _, rfl, ent_thr1, ?_, ?_⟩
 · intro l W W' h hs e
   obtain ⟨_, _, _, _, st, _⟩ := hS
   exact h.env st hg hs e
 · intro l W x h hs e hl hx
   exact thr1_any w0 hi g tv sv f P hT hS hf hg hg0 l W x h hs e hl hx
set_option maxRecDepth 100000 in
theorem through_any (w0 : World) (gs : List Ag) (tv sv : Value) (f : V → Bool → V) (P : List V → World → Prop) (W : World) (p : Option Addr) (n c : Nat) (hT : TurnC w0 tv f) (hS : FnC w0 W.heap.size sv encV V.ok P) (hf : ∀ x a, x.ok → (f x a).ok)
   (hA : RdA w0.heap.size W (.slice p n c) gs) (hI : AgI gs) (hlen : (seen gs).length ≤ 15000) (hal : gs.length ≤ 15000) (hP : P [] W) (hE : Ext w0 W) (hN : Nm w0) :
   Calls Tryd.prog 44 #[.slice p n c, tv, sv] W fun e w' => e = .returned (bad f (seen gs)).dat ∧ P (got f (seen gs)) w' ∧ Ext w0 w' := by
 obtain ⟨Kt, et⟩ : ∃ Kt, tv = .func (.func Kt) #[] #[] := by obtain ⟨K, h, _⟩ := hT; exact ⟨K, h⟩
 obtain ⟨Ks, cs, es⟩ : ∃ Ks cs, sv = .func (.func Ks) #[] cs := by obtain ⟨K, cs, h, _⟩ := hS; exact ⟨K, cs, h⟩
 subst et es
 have stS : ∀ l W1 W', P l W1 → W.heap.size ≤ W1.heap.size → Env W.heap.size W1 W' → P l W' := by obtain ⟨_, _, _, _, st, _⟩ := hS; exact st
 have HF : Hid (FnC w0 (W.heap.size + 3) (.func (.func 73) #[] #[.pointer (some ⟨W.heap.size, 0, none⟩), .pointer (some ⟨W.heap.size + 1, 0, none⟩), .pointer (some ⟨W.heap.size + 2, 0, none⟩)]) encS okS (fun l V => Thr w0 W.heap.size W.heap.size (.func (.func Kt) #[] #[]) (.func (.func Ks) #[] cs) f P l V)) := thr_fn w0 W.heap.size W.heap.size _ _ f P hT hS hf (Nat.le_refl _) hE.size
 have H0 : Hid (RdA w0.heap.size W (.slice p n c) gs ∧ AgI gs ∧ (seen gs).length ≤ 15000 ∧ gs.length ≤ 15000 ∧ P [] W ∧ Ext w0 W ∧ Nm w0) := ⟨hA, hI, hlen, hal, hP, hE, hN⟩
 have ST : Hid (∀ l W1 W', P l W1 → W.heap.size ≤ W1.heap.size → Env W.heap.size W1 W' → P l W') := stS
 clear hT hS hf hA hI hlen hal hP hE hN stS
 go_enter Tryd.func44, Tryd.ntmps44
 go_wp2_with fail
 generalize hW3 : ((W.alloc _).alloc _).alloc _ = W3
 have z1 : ∀ o, (W.alloc o).heap.size = W.heap.size + 1 := fun o => by simp
 have z2 : ∀ o o', ((W.alloc o).alloc o').heap.size = W.heap.size + 2 := fun o o' => by simp
 have z3 : W3.heap.size = W.heap.size + 3 := by rw [← hW3]; simp
 have E3 : Ext W W3 := by rw [← hW3]; exact (((Ext.refl _).alloc _).alloc _).alloc _
 have HT : Thr w0 W.heap.size W.heap.size (.func (.func Kt) #[] #[]) (.func (.func Ks) #[] cs) f P [] W3 := by
   refine ⟨ST.out _ _ _ H0.out.2.2.2.2.1 (Nat.le_refl _) (E3.env (Nat.le_refl _)), ?_, ?_, ?_, ?_, ?_, ?_⟩
   · rw [← hW3]; simp [go_sem]
   · rw [← hW3]; simp [go_sem]
   · rw [← hW3]; exact blk_top (by rw [z2]) (Ext.refl _)
   · rw [← hW3]; exact Own4.new (by decide) (((Ext.refl _).alloc _).alloc _)
   · rw [← hW3]; exact Own4.at (by rw [z1]) (by decide) ((Ext.refl _).alloc _)
   · rw [← hW3]; exact Own4.at (by rw [z2]) (by decide) (Ext.refl _)
 refine (each_any w0 (W.heap.size + 3) gs _ _ W3 p n c (H0.out.1.low (Below.mono E3 H0.out.2.2.2.2.2.1.size)) H0.out.2.1 H0.out.2.2.1 H0.out.2.2.2.1 HF.out HT (by omega) (H0.out.2.2.2.2.2.1.trans E3) H0.out.2.2.2.2.2.2).mono ?_
 rintro e w4 ⟨rfl, T4, M4⟩
 have X4 : Hid (Ext w0 w4) := M4.ext (H0.out.2.2.2.2.2.1.trans E3)
 have P4 : Hid (P (got f (seen gs)) w4) := T4.p
 have HB : Hid (Blk w4 (W.heap.size + 2) (.int .i64 (bad f (seen gs)).k) (.int .i64 (bad f (seen gs)).n) (.string (bad f (seen gs)).s) (.int .i64 (bad f (seen gs)).e) ∧ Own4 w4 (W.heap.size + 2) ∧ w0.heap.size ≤ W.heap.size) := ⟨T4.b, T4.ob, H0.out.2.2.2.2.2.1.size⟩
 obtain ⟨c0z, ⟨c0_0, c0_1, c0_2, c0_3⟩, c0f0, c0f1, c0f2, c0f3⟩ := T4.b
 have HD : Hid ((bad f (seen gs)).dat = .agg #[.int .i64 (bad f (seen gs)).k, .int .i64 (bad f (seen gs)).n, .string (bad f (seen gs)).s, .int .i64 (bad f (seen gs)).e]) := dat_eq _
 generalize (bad f (seen gs)).k = zk at *
 generalize (bad f (seen gs)).n = zn at *
 generalize (bad f (seen gs)).s = zs' at *
 generalize (bad f (seen gs)).e = ze at *
 have PZ : Hid (w4.heap.size = w4.heap.size ∧ W.heap.size ≤ w4.heap.size) := ⟨rfl, Nat.le_trans (by omega) M4.1.size⟩
 clear hW3 z1 z2 z3 E3 HT T4 M4 HF
 go_wp2_with fail
 have hb : W.heap.size ≤ W.heap.size + 2 := by omega
 have hb0 : w0.heap.size ≤ W.heap.size + 2 := Nat.le_trans HB.out.2.2 hb
 exact finB (w := w0) (HB.out.1.set _ _ _ _) rfl ((((X4.out.setCell (p := ⟨W.heap.size + 2, 0, none⟩) hb0 _).setCell (p := ⟨W.heap.size + 2, 1, none⟩) hb0 _).setCell (p := ⟨W.heap.size + 2, 2, none⟩) hb0 _).setCell (p := ⟨W.heap.size + 2, 3, none⟩) hb0 _)
   (fun g0 g1 g2 g3 => by simp [results, Tryd.results44, go_sem, g0, g1, g2, g3])
   (fun h => ⟨by rw [HD.out], ST.out _ _ _ P4.out PZ.out.2 ((((((Ext.refl w4).env PZ.out.2).set hb HB.out.2.1.2 _ _).set hb HB.out.2.1.2 _ _).set hb HB.out.2.1.2 _ _).set hb HB.out.2.1.2 _ _), h⟩)

open Go.RowKit
set_option maxHeartbeats 1000000

/-- The variables sum (block g) and count (block g + 1). -/
structure Tot (g : Nat) (l : List V) (W : World) : Prop where
 z : g + 1 < W.heap.size
 s0 : W.cell? ⟨g, 0, none⟩ = some (.int .i64 (hiOf (sumN l)))
 s1 : W.cell? ⟨g, 1, none⟩ = some (.int .u64 (loOf (sumN l)))
 c0 : W.cell? ⟨g + 1, 0, none⟩ = some (.int .i64 (l.length : Int))
 f0 : W.frozen? ⟨g, 0, none⟩ = false
 f1 : W.frozen? ⟨g, 1, none⟩ = false
 f2 : W.frozen? ⟨g + 1, 0, none⟩ = false
theorem Env.at {hi : Nat} {w w' : World} (h : Env hi w w') {b : Nat} (hb : b < hi) (o : Nat) : w'.cell? ⟨b, o, none⟩ = w.cell? ⟨b, o, none⟩ ∧ w'.frozen? ⟨b, o, none⟩ = w.frozen? ⟨b, o, none⟩ :=
 ⟨Below.cell h.1 (p := ⟨b, o, none⟩) hb, Below.frozen h.1 (p := ⟨b, o, none⟩) hb⟩
theorem Tot.env {g hi : Nat} {l : List V} {W W' : World} (h : Tot g l W) (e : Env hi W W') (hg : g + 2 ≤ hi) : Tot g l W' := by
 obtain ⟨z, s0, s1, c0, f0, f1, f2⟩ := h
 have k0 := e.at (b := g) (by omega)
 have k1 := e.at (b := g + 1) (by omega)
 exact ⟨Nat.lt_of_lt_of_le z e.1.size, (k0 0).1.trans s0, (k0 1).1.trans s1, (k1 0).1.trans c0, (k0 0).2.trans f0, (k0 1).2.trans f1, (k1 0).2.trans f2⟩
theorem Tot.put {g : Nat} {l : List V} {W : World} {x : V} (h : Tot g l W) (wk : wrap64 ((l.length : Int) + 1) = ((l.length + 1 : Nat) : Int)) :
   Tot g (l ++ [x]) (((W.setCell ⟨g, 0, none⟩ (.int .i64 (hiOf (sumN l + x.n)))).setCell ⟨g, 1, none⟩ (.int .u64 (loOf (sumN l + x.n)))).setCell ⟨g + 1, 0, none⟩ (.int .i64 (wrap64 ((l.length : Int) + 1)))) := by
 obtain ⟨z, s0, s1, c0, f0, f1, f2⟩ := h
 have es : sumN (l ++ [x]) = sumN l + x.n := by rw [sumN_app]; simp [sumN]
 have el : (l ++ [x]).length = l.length + 1 := by simp
 have e0 := World.cell?_setCell_same W ⟨g, 0, none⟩ (.int .i64 (hiOf (sumN l + x.n))) (by rw [s0])
 have j1 : (W.setCell ⟨g, 0, none⟩ (.int .i64 (hiOf (sumN l + x.n)))).cell? ⟨g, 1, none⟩ = some (.int .u64 (loOf (sumN l))) := by rw [World.cell?_setCell_other _ _ _ _ (by simp)]; exact s1
 have e1 := World.cell?_setCell_same _ ⟨g, 1, none⟩ (.int .u64 (loOf (sumN l + x.n))) (by rw [j1])
 have j2 : ((W.setCell ⟨g, 0, none⟩ (.int .i64 (hiOf (sumN l + x.n)))).setCell ⟨g, 1, none⟩ (.int .u64 (loOf (sumN l + x.n)))).cell? ⟨g + 1, 0, none⟩ = some (.int .i64 (l.length : Int)) := by
   rw [World.cell?_setCell_far _ _ _ _ (by simp), World.cell?_setCell_far _ _ _ _ (by simp)]; exact c0
 have e2 := World.cell?_setCell_same _ ⟨g + 1, 0, none⟩ (.int .i64 (wrap64 ((l.length : Int) + 1))) (by rw [j2])
 refine ⟨by simpa [World.setCell] using z, ?_, ?_, ?_, ?_, ?_, ?_⟩
 · rw [es, World.cell?_setCell_far _ _ _ _ (by simp), World.cell?_setCell_other _ _ _ _ (by simp)]; exact e0
 · rw [es, World.cell?_setCell_far _ _ _ _ (by simp)]; exact e1
 · rw [el, ← wk]; exact e2
 · simpa [go_sem] using f0
 · simpa [go_sem] using f1
 · simpa [go_sem] using f2
set_option maxRecDepth 100000 in
theorem tot1_any (w0 : World) (g : Nat) (hg : w0.heap.size ≤ g) (l : List V) (W : World) (x : V) (h : Tot g l W) (hE : Ext w0 W) (hl : l.length ≤ 20000) (hx : x.ok) :
   Calls Tryd.prog 46 (encV x ++ #[.pointer (some ⟨g, 0, none⟩), .pointer (some ⟨g + 1, 0, none⟩)]) W fun e w' => e = .returned (.tuple #[]) ∧ Tot g (l ++ [x]) w' ∧ Mid w0.heap.size (g + 2) W w' := by
 have H : Hid (Tot g l W) := h
 have hn := (nm_of x hx).2
 have cP := fun W => plus_acc (sumN l) x.n hn W
 have WK : Hid (wrap64 ((l.length : Int) + 1) = ((l.length + 1 : Nat) : Int)) := wrap_1 _ (by omega)
 obtain ⟨z, s0, s1, c0, f0, f1, f2⟩ := h
 have H0 : Hid (w0.heap.size ≤ g ∧ Ext w0 W) := ⟨hg, hE⟩
 rw [show encV x = #[x.dat] from rfl, dat_eq x]
 have zg : g < W.heap.size := by omega
 have HP := fun (w1 : World) (e : Env (g + 2) W w1) => (H.out.env e (Nat.le_refl _)).put (x := x) WK.out
 clear hg hE hx hn hl
 obtain ⟨a0, ha0⟩ : ∃ q, hiOf (sumN l) = q := ⟨_, rfl⟩
 obtain ⟨a1, ha1⟩ : ∃ q, loOf (sumN l) = q := ⟨_, rfl⟩
 obtain ⟨b0, hb0⟩ : ∃ q, hiOf (sumN l + x.n) = q := ⟨_, rfl⟩
 obtain ⟨b1, hb1⟩ : ∃ q, loOf (sumN l + x.n) = q := ⟨_, rfl⟩
 rw [ha0] at s0
 rw [ha1] at s1
 rw [ha0, ha1, hb0, hb1] at cP
 rw [hb0, hb1] at HP
 have HQ : Hid (∀ w1, Env (g + 2) W w1 → Tot g (l ++ [x]) (((w1.setCell ⟨g, 0, none⟩ (.int .i64 b0)).setCell ⟨g, 1, none⟩ (.int .u64 b1)).setCell ⟨g + 1, 0, none⟩ (.int .i64 (wrap64 ((l.length : Int) + 1))))) := HP
 clear ha0 ha1 hb0 hb1 HP
 obtain ⟨xk, hxk⟩ : ∃ q, x.k = q := ⟨_, rfl⟩
 obtain ⟨xn, hxn⟩ : ∃ q, x.n = q := ⟨_, rfl⟩
 obtain ⟨xs, hxs⟩ : ∃ q, x.s = q := ⟨_, rfl⟩
 obtain ⟨xe, hxe⟩ : ∃ q, x.e = q := ⟨_, rfl⟩
 rw [hxk, hxn, hxs, hxe]
 rw [hxn] at cP
 clear hxk hxn hxs hxe
 go_enter Tryd.func46, Tryd.ntmps46
 go_wp2_with fail
 refine (cP _).mono ?_
 rintro e w1 ⟨rfl, E1⟩
 have X1 : Hid (Ext W w1) := ((Ext.refl _).alloc _).trans E1
 have e1 := X1.out.cell
 have d0 := (e1.1 g 0 zg).trans s0
 have d1 := (e1.1 g 1 zg).trans s1
 have d2 := (e1.1 (g + 1) 0 z).trans c0
 have q0 := (e1.2 g 0 zg).trans f0
 have q1 := (e1.2 g 1 zg).trans f1
 have q2 := (e1.2 (g + 1) 0 z).trans f2
 have zc : g + 1 < w1.heap.size := Nat.lt_of_lt_of_le z X1.out.size
 clear E1 e1 s0 s1 c0 f0 f1 f2 cP
 go_wp2_with fail
 go_end0
 refine ⟨rfl, HQ.out w1 (X1.out.env (by omega)), ?_⟩
 exact (((X1.out.mid H0.out.2.size _).set H0.out.1 (by omega) _ _).set H0.out.1 (by omega) _ _).set (by have := H0.out.1; omega) (by omega) _ _
theorem ent_tot1 : ∀ args W, (callFunc 46 args).run Tryd.prog W = .ok (.enter 46 args) W := enters_of Tryd.func46 (by kernel_rfl) rfl
theorem tot_fn (w0 : World) (g hi : Nat) (hg : w0.heap.size ≤ g) (hh : g + 2 ≤ hi) : FnC w0 hi (.func (.func 46) #[] #[.pointer (some ⟨g, 0, none⟩), .pointer (some ⟨g + 1, 0, none⟩)]) encV V.ok (fun l W => Tot g l W) := by
 refine ⟨_, _, rfl, ent_tot1, ?_, ?_⟩
 · intro l W W' h hs e
   exact h.env e hh
 · intro l W x h hs e hl hx
   exact (tot1_any w0 g hg l W x h e hl hx).mono (fun e w' q => ⟨q.1, q.2.1, q.2.2.wide hh⟩)
theorem numF_okk (x : V) (a : Bool) (h : x.ok) : (numF x a).ok := by
 rcases numF_ok x a h with k | ⟨e, k, h1⟩ | ⟨n, k, h1⟩
 · cases hv : numF x a with
   | blank => trivial
   | _ => rw [hv] at k; simp [V.k] at k
 · rw [k]; exact h1
 · rw [k]; exact h1
/-- A block more that the function value does not turn. -/
theorem FnC.keep {w0 : World} {g : Nat} {v : Value} {α : Type} {enc : α → Array Value} {ok : α → Prop} {P : List α → World → Prop} (h : FnC w0 (g + 2) v enc ok P) (x0 x1 x2 x3 : Value) :
   FnC w0 (g + 3) v enc ok (fun l W => P l W ∧ Blk W (g + 2) x0 x1 x2 x3 ∧ Own4 W (g + 2)) := by
 obtain ⟨K, cs, rfl, ent, st, ca⟩ := h
 refine ⟨K, cs, rfl, ent, ?_, ?_⟩
 · intro l W W' ⟨p, b, o⟩ hs e
   obtain ⟨o', eb⟩ := o.env e (by omega)
   exact ⟨st _ _ _ p (by omega) (e.down (by omega)), b.cells e.1.size eb, o'⟩
 · intro l W x ⟨p, b, o⟩ hs e hl hx
   refine (ca l W x p (by omega) e hl hx).mono ?_
   rintro e w' ⟨h1, h2, h3⟩
   obtain ⟨o', eb⟩ := o.mid h3 (Nat.le_refl _)
   exact ⟨h1, ⟨h2, b.cells h3.1.size eb, o'⟩, h3.wide (by omega)⟩
/-- These cells hold these values; of w0 nothing has turned. -/
def RetT (w0 : World) (cs : List (Nat × Nat × Value)) (V : World) : Prop := Ext w0 V ∧ ∀ q ∈ cs, w0.heap.size ≤ q.1 ∧ V.cell? ⟨q.1, q.2.1, none⟩ = some q.2.2 ∧ V.frozen? ⟨q.1, q.2.1, none⟩ = false
theorem RetT.ext {w0 V V' : World} {cs : List (Nat × Nat × Value)} (h : RetT w0 cs V) (e : Ext V V') : RetT w0 cs V' :=
 ⟨h.1.trans e, fun q hq => by
   obtain ⟨h1, h2, h3⟩ := h.2 q hq
   have z := World.block_lt_of_cell? _ _ h2
   exact ⟨h1, (e.cell.1 _ _ z).trans h2, (e.cell.2 _ _ z).trans h3⟩⟩
theorem RetT.drew {w0 V : World} {cs : List (Nat × Nat × Value)} (h : RetT w0 cs V) : RetT w0 cs V.drew := h.ext (Ext.refl _).drew
theorem RetT.drewN {w0 V : World} {cs : List (Nat × Nat × Value)} {n : Nat} (h : RetT w0 cs V) : RetT w0 cs (V.drewN n) := h.ext ((Ext.refl _).drewN n)
theorem RetT.set {w0 V : World} {cs : List (Nat × Nat × Value)} {b o : Nat} {v : Value} (h : RetT w0 cs V) (hm : (b, o, v) ∈ cs) : RetT w0 cs (V.setCell ⟨b, o, none⟩ v) := by
 obtain ⟨m1, m2, m3⟩ := h.2 _ hm
 refine ⟨h.1.setCell m1 _, fun q hq => ?_⟩
 obtain ⟨h1, h2, h3⟩ := h.2 q hq
 refine ⟨h1, ?_, by simpa [go_sem] using h3⟩
 by_cases hc : q.1 = b ∧ q.2.1 = o
 · obtain ⟨rfl, rfl⟩ := hc
   have : some q.2.2 = some v := h2.symm.trans m2
   rw [World.cell?_setCell_same _ _ _ (by rw [h2])]
   exact this.symm
 · rw [World.cell?_setCell_other _ _ _ _ (by simp; intro e1 e2; exact hc ⟨e1.symm, e2.symm⟩)]
   exact h2
theorem RetT.put {w0 V : World} {cs : List (Nat × Nat × Value)} {b : Nat} {o0 o1 o2 o3 : Value} (h : RetT w0 cs V) (hb : w0.heap.size ≤ b) (hn : ∀ q ∈ cs, b ≠ q.1) (B : Blk V b o0 o1 o2 o3) (x0 x1 x2 x3 : Value) :
   RetT w0 (cs ++ [(b, 0, x0), (b, 1, x1), (b, 2, x2), (b, 3, x3)]) (put4 V b x0 x1 x2 x3) := by
 obtain ⟨_, ⟨k0, k1, k2, k3⟩, f0, f1, f2, f3⟩ := B.set x0 x1 x2 x3
 refine ⟨(((h.1.setCell hb _).setCell hb _).setCell hb _).setCell hb _, fun q hq => ?_⟩
 rcases List.mem_append.1 hq with hq | hq
 · obtain ⟨h1, h2, h3⟩ := h.2 q hq
   have := hn q hq
   refine ⟨h1, ?_, ?_⟩
   · unfold put4
     iterate 4 rw [World.cell?_setCell_far _ _ _ _ this]
     exact h2
   · unfold put4
     simpa [go_sem] using h3
 · simp only [List.mem_cons, List.not_mem_nil, or_false] at hq
   rcases hq with rfl | rfl | rfl | rfl
   · exact ⟨hb, k0, f0⟩
   · exact ⟨hb, k1, f1⟩
   · exact ⟨hb, k2, f2⟩
   · exact ⟨hb, k3, f3⟩
/-- Zero values in a block of its own. -/
def Zer (W : World) (b : Nat) : Prop := Blk W b (.int .i64 0) (.int .i64 0) (.string ⟨#[]⟩) (.int .i64 0) ∧ Own4 W b
set_option maxRecDepth 100000 in
theorem total_any (w0 : World) (gs : List Ag) (p : Option Addr) (n c : Nat) (hA : RdA w0.heap.size w0 (.slice p n c) gs) (hI : AgI gs) (hlen : (seen gs).length ≤ 15000) (hal : gs.length ≤ 15000) (hN : Nm w0) :
   Calls Tryd.prog 22 #[.slice p n c] w0 fun e w' => e = .returned (.tuple #[.agg #[.int .i64 (hiOf (sumN (got numF (seen gs)))), .int .u64 (loOf (sumN (got numF (seen gs))))], .int .i64 ((got numF (seen gs)).length : Int), (bad numF (seen gs)).dat]) ∧ Ext w0 w' := by
 have HF : Hid (FnC w0 (w0.heap.size + 3) (.func (.func 46) #[] #[.pointer (some ⟨w0.heap.size, 0, none⟩), .pointer (some ⟨w0.heap.size + 1, 0, none⟩)]) encV V.ok (fun l W => Tot w0.heap.size l W ∧ Zer W (w0.heap.size + 2))) := (tot_fn w0 w0.heap.size _ (Nat.le_refl _) (Nat.le_refl _)).keep _ _ _ _
 have H0 : Hid (RdA w0.heap.size w0 (.slice p n c) gs ∧ AgI gs ∧ (seen gs).length ≤ 15000 ∧ gs.length ≤ 15000 ∧ Nm w0) := ⟨hA, hI, hlen, hal, hN⟩
 clear hA hI hlen hal hN
 go_enter Tryd.func22, Tryd.ntmps22
 go_wp2_with fail
 generalize hW3 : ((w0.alloc _).alloc _).alloc _ = W3
 have z3 : W3.heap.size = w0.heap.size + 3 := by rw [← hW3]; simp
 have E3 : Ext w0 W3 := by rw [← hW3]; exact (((Ext.refl _).alloc _).alloc _).alloc _
 have HT : Tot w0.heap.size [] W3 := by
   refine ⟨by omega, ?_, ?_, ?_, ?_, ?_, ?_⟩
   all_goals (rw [← hW3]; simp [go_sem, sumN]; try decide)
 have B3 : Blk W3 (w0.heap.size + 2) (.int .i64 0) (.int .i64 0) (.string ⟨#[]⟩) (.int .i64 0) := by rw [← hW3]; exact blk_top (by simp) (Ext.refl _)
 have O3 : Own4 W3 (w0.heap.size + 2) := by rw [← hW3]; exact Own4.at (by simp) (by decide) (Ext.refl _)
 refine (through_any w0 gs _ _ numF (fun l W => Tot w0.heap.size l W ∧ Zer W (w0.heap.size + 2)) W3 p n c (turn_number w0 H0.out.2.2.2.2) (by rw [z3]; exact HF.out) numF_okk (H0.out.1.low (Below.mono E3 (Nat.le_refl _))) H0.out.2.1 H0.out.2.2.1 H0.out.2.2.2.1 ⟨HT, B3, O3⟩ E3 H0.out.2.2.2.2).mono ?_
 rintro e w4 ⟨rfl, ⟨T4, B4, O4⟩, X4⟩
 obtain ⟨c0z, ⟨c0_0, c0_1, c0_2, c0_3⟩, c0f0, c0f1, c0f2, c0f3⟩ := B4
 have HB4 : Hid (Blk w4 (w0.heap.size + 2) (.int .i64 0) (.int .i64 0) (.string ⟨#[]⟩) (.int .i64 0)) := ⟨c0z, ⟨c0_0, c0_1, c0_2, c0_3⟩, c0f0, c0f1, c0f2, c0f3⟩
 obtain ⟨tz, t0, t1, t2, g0, g1, g2⟩ := T4
 have HD : Hid ((bad numF (seen gs)).dat = .agg #[.int .i64 (bad numF (seen gs)).k, .int .i64 (bad numF (seen gs)).n, .string (bad numF (seen gs)).s, .int .i64 (bad numF (seen gs)).e]) := dat_eq _
 have hD := dat_eq (bad numF (seen gs))
 obtain ⟨A0, hA0⟩ : ∃ q, hiOf (sumN (got numF (seen gs))) = q := ⟨_, rfl⟩
 obtain ⟨A1, hA1⟩ : ∃ q, loOf (sumN (got numF (seen gs))) = q := ⟨_, rfl⟩
 obtain ⟨C0, hC0⟩ : ∃ q : Int, ((got numF (seen gs)).length : Int) = q := ⟨_, rfl⟩
 obtain ⟨zk, hzk⟩ : ∃ q, (bad numF (seen gs)).k = q := ⟨_, rfl⟩
 obtain ⟨zn, hzn⟩ : ∃ q, (bad numF (seen gs)).n = q := ⟨_, rfl⟩
 obtain ⟨zs', hzs⟩ : ∃ q, (bad numF (seen gs)).s = q := ⟨_, rfl⟩
 obtain ⟨ze, hze⟩ : ∃ q, (bad numF (seen gs)).e = q := ⟨_, rfl⟩
 have HR : Hid (hiOf (sumN (got numF (seen gs))) = A0 ∧ loOf (sumN (got numF (seen gs))) = A1 ∧ ((got numF (seen gs)).length : Int) = C0) := ⟨hA0, hA1, hC0⟩
 rw [hzk, hzn, hzs, hze] at HD hD
 rw [hA0] at t0
 rw [hA1] at t1
 rw [hC0] at t2
 rw [hD]
 clear hA0 hA1 hC0 hzk hzn hzs hze hW3 z3 E3 HT B3 O3 O4 hD
 have HR4 : Hid (RetT w0 [(w0.heap.size, 0, .int .i64 A0), (w0.heap.size, 1, .int .u64 A1), (w0.heap.size + 1, 0, .int .i64 C0)] w4) := by
   refine ⟨X4, fun q hq => ?_⟩
   simp only [List.mem_cons, List.not_mem_nil, or_false] at hq
   rcases hq with rfl | rfl | rfl
   · exact ⟨Nat.le_refl _, t0, g0⟩
   · exact ⟨Nat.le_refl _, t1, g1⟩
   · exact ⟨Nat.le_succ _, t2, g2⟩
 clear X4
 have tz0 : w0.heap.size < w4.heap.size := by omega
 go_wp2_with fail
 generalize hW5 : World.setCell _ ⟨w0.heap.size + 1 + 1, 3, none⟩ _ = W5
 have HR5 : RetT w0 [(w0.heap.size, 0, .int .i64 A0), (w0.heap.size, 1, .int .u64 A1), (w0.heap.size + 1, 0, .int .i64 C0), (w0.heap.size + 2, 0, .int .i64 zk), (w0.heap.size + 2, 1, .int .i64 zn), (w0.heap.size + 2, 2, .string zs'), (w0.heap.size + 2, 3, .int .i64 ze)] W5 := by
   rw [← hW5]
   exact HR4.out.put (b := w0.heap.size + 2) (by omega) (by intro q hq; simp only [List.mem_cons, List.not_mem_nil, or_false] at hq; rcases hq with rfl | rfl | rfl <;> (show w0.heap.size + 2 ≠ _; omega)) HB4.out _ _ _ _
 clear hW5 tz0 tz g0 g1 g2 t0 t1 t2 c0z c0_0 c0_1 c0_2 c0_3 c0f0 c0f1 c0f2 c0f3 HB4 HR4 HF
 have mkS : Hid (∀ V, RetT w0 [(w0.heap.size, 0, .int .i64 A0), (w0.heap.size, 1, .int .u64 A1), (w0.heap.size + 1, 0, .int .i64 C0), (w0.heap.size + 2, 0, .int .i64 zk), (w0.heap.size + 2, 1, .int .i64 zn), (w0.heap.size + 2, 2, .string zs'), (w0.heap.size + 2, 3, .int .i64 ze)] V →
     (((V.cell? ⟨w0.heap.size, 0, none⟩ = some (.int .i64 A0) ∧ V.cell? ⟨w0.heap.size, 1, none⟩ = some (.int .u64 A1) ∧ V.cell? ⟨w0.heap.size + 1, 0, none⟩ = some (.int .i64 C0) ∧ V.cell? ⟨w0.heap.size + 2, 0, none⟩ = some (.int .i64 zk) ∧ V.cell? ⟨w0.heap.size + 2, 1, none⟩ = some (.int .i64 zn) ∧ V.cell? ⟨w0.heap.size + 2, 2, none⟩ = some (.string zs') ∧ V.cell? ⟨w0.heap.size + 2, 3, none⟩ = some (.int .i64 ze)) ∧
      (V.frozen? ⟨w0.heap.size, 0, none⟩ = false ∧ V.frozen? ⟨w0.heap.size, 1, none⟩ = false ∧ V.frozen? ⟨w0.heap.size + 1, 0, none⟩ = false ∧ V.frozen? ⟨w0.heap.size + 2, 0, none⟩ = false ∧ V.frozen? ⟨w0.heap.size + 2, 1, none⟩ = false ∧ V.frozen? ⟨w0.heap.size + 2, 2, none⟩ = false ∧ V.frozen? ⟨w0.heap.size + 2, 3, none⟩ = false)) ∧
      RetT w0 [(w0.heap.size, 0, .int .i64 A0), (w0.heap.size, 1, .int .u64 A1), (w0.heap.size + 1, 0, .int .i64 C0), (w0.heap.size + 2, 0, .int .i64 zk), (w0.heap.size + 2, 1, .int .i64 zn), (w0.heap.size + 2, 2, .string zs'), (w0.heap.size + 2, 3, .int .i64 ze)] V)) := by
   intro V h
   exact ⟨⟨⟨(h.2 (_, _, _) (by simp)).2.1, (h.2 (_, _, _) (by simp)).2.1, (h.2 (_, _, _) (by simp)).2.1, (h.2 (_, _, _) (by simp)).2.1, (h.2 (_, _, _) (by simp)).2.1, (h.2 (_, _, _) (by simp)).2.1, (h.2 (_, _, _) (by simp)).2.1⟩,
     (h.2 (_, _, .int .i64 A0) (by simp)).2.2, (h.2 (_, _, .int .u64 A1) (by simp)).2.2, (h.2 (_, _, .int .i64 C0) (by simp)).2.2, (h.2 (_, _, .int .i64 zk) (by simp)).2.2, (h.2 (_, _, .int .i64 zn) (by simp)).2.2, (h.2 (_, _, .string zs') (by simp)).2.2, (h.2 (_, _, .int .i64 ze) (by simp)).2.2⟩, h⟩
 have X5 : Hid (Ext w0 W5) := HR5.1
 obtain ⟨⟨⟨k0, k1, k2, k3, k4, k5, k6⟩, f0, f1, f2, f3, f4, f5, f6⟩, _⟩ := mkS.out _ HR5
 have zz : w0.heap.size + 2 < W5.heap.size := World.block_lt_of_cell? _ _ k3
 have zz1 : w0.heap.size + 1 < W5.heap.size := World.block_lt_of_cell? _ _ k2
 have zz0 : w0.heap.size < W5.heap.size := World.block_lt_of_cell? _ _ k0
 clear HR5
 have HR6 : Hid (RetT w0 [(w0.heap.size, 0, .int .i64 A0), (w0.heap.size, 1, .int .u64 A1), (w0.heap.size + 1, 0, .int .i64 C0), (w0.heap.size + 2, 0, .int .i64 zk), (w0.heap.size + 2, 1, .int .i64 zn), (w0.heap.size + 2, 2, .string zs'), (w0.heap.size + 2, 3, .int .i64 ze)] W5) := by
   refine ⟨X5.out, fun q hq => ?_⟩
   simp only [List.mem_cons, List.not_mem_nil, or_false] at hq
   rcases hq with rfl | rfl | rfl | rfl | rfl | rfl | rfl
   · exact ⟨Nat.le_refl _, k0, f0⟩
   · exact ⟨Nat.le_refl _, k1, f1⟩
   · exact ⟨Nat.le_succ _, k2, f2⟩
   · exact ⟨by show _ ≤ _ + 2; omega, k3, f3⟩
   · exact ⟨by show _ ≤ _ + 2; omega, k4, f4⟩
   · exact ⟨by show _ ≤ _ + 2; omega, k5, f5⟩
   · exact ⟨by show _ ≤ _ + 2; omega, k6, f6⟩
 go_region
 all_goals
   go_wp2_with fail
   clear k0 k1 k2 k3 k4 k5 k6 f0 f1 f2 f3 f4 f5 f6 zz zz1 zz0
   generalize hW6 : World.drew _ = W6
   have R6 := mkS.out W6 (by rw [← hW6]; with_reducible repeat (first | exact HR6.out | apply RetT.drewN | apply RetT.drew | (refine RetT.set ?_ (by simp))))
   obtain ⟨⟨⟨k0, k1, k2, k3, k4, k5, k6⟩, _⟩, R6⟩ := R6
   refine bodyPost_ret (v := .tuple #[.agg #[.int .i64 A0, .int .u64 A1], .int .i64 C0, .agg #[.int .i64 zk, .int .i64 zn, .string zs', .int .i64 ze]]) (by simp [results, Tryd.results22, go_sem, k0, k1, k2, k3, k4, k5, k6]) rfl ⟨?_, R6.1⟩
   rw [HR.out.1, HR.out.2.1, HR.out.2.2, HD.out]
end Go.Proofs.YtiahgalhemljnaaDoor
