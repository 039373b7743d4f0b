/-
 All functions (package funcs) as plain data: arguments one by one, what a function comes to or the error by which it fails. No program in sight.
 Package fold: arguments in memory; which moves of a world leave what; the values that are gone through.
 Package fold: each.
 The contracts of package value's ToNum and of its operators, which are functions that are answered.
-/
import Derived.Test.YtalejeknigbhjaaGreatDoorY9
import Derived.Test.YtalejeknigbhjaaGreatDoorY10
import Derived.Deep.DeepCutAuto
import Derived.Deep.Light
import Derived.Deep.CutBlock
import Derived.Test.YtalejeknigbhjaaGreatDoorY8
namespace Go.Proofs.YtalejeknigbhjaaGreatDoor
open Go.RowKit

/-- An argument as it lies: its rows and columns too. -/
structure Bg where
 g : Ag
 rows : Int
 cols : Int
/-- The one value that an argument is. -/
def sgl (b : Bg) : V := if b.g.area then .err 2 else one1 b.g.l
def sg (l : List Bg) (i : Nat) : V := match l[i]? with
 | some b => sgl b
 | none => .err 2
/-- A value's four fields. -/
def V.rw (v : V) : Rw := ⟨v.k, v.n, v.s, v.e⟩
theorem rw_v (v : V) (h : v.ok) : v.rw.v = v := by
 cases v with
 | blank => rfl
 | tf b => exact nm_tf b
 | num n => exact nm_num h.2
 | text s => exact nm_text h
 | err e => exact nm_err h
/-- Something, or the error by which the call fails. -/
abbrev R (α : Type) := Except Int α
def nuR (v : V) : R Int := match v.toNum with
 | .err e => .error e
 | u => .ok u.n
def teR (v : V) : R ByteArray := match v.toText with
 | .err e => .error e
 | u => .ok u.s
def trR (v : V) : R Bool := match v.toBool with
 | .err e => .error e
 | u => .ok (u.n != 0)
def whN (n : Int) : Int := n / 10000
def whR (v : V) : R Int := (nuR v).map whN
def whO (l : List Bg) (i : Nat) : R Int := if l.length ≤ i then .ok 1 else whR (sg l i)
def tolR (b : Bool) (n : Int) : R V := if b then .ok (mkNum n) else .error 4
/-- The root, next below. -/
def rtN : Nat → Nat
 | 0 => 0
 | n + 1 => if (rtN n + 1) * (rtN n + 1) ≤ n + 1 then rtN n + 1 else rtN n
theorem rt_is (n : Nat) : IsRoot n (rtN n) := by
 induction n with
 | zero => exact ⟨by decide, by decide⟩
 | succ n ih =>
   obtain ⟨h1, h2⟩ := ih
   unfold rtN
   split
   · rename_i h
     refine ⟨h, ?_⟩
     have : (rtN n + 1) * (rtN n + 1) = n + 1 := by omega
     have e : (rtN n + 1 + 1) * (rtN n + 1 + 1) = (rtN n + 1) * (rtN n + 1) + 2 * (rtN n + 1) + 1 := by
       generalize rtN n + 1 = x
       rw [Nat.add_mul, Nat.mul_add]; omega
     omega
   · rename_i h
     exact ⟨by omega, by omega⟩
def rootB (a : Int) : Bool := decide (0 ≤ a)
def rootV (a : Int) : Int := if 0 ≤ a then (rtN (a.toNat * 10000) : Int) else 0
def szN (n : Int) : Int := if n < 0 then -n else n

/-! ### The functions, one by one -/
def gsOf (l : List Bg) : List Ag := l.map Bg.g
def xIf (l : List Bg) : R Rw := match trR (sg l 0) with
 | .error e => .error e
 | .ok t => if t then .ok (sg l 1).rw else if l.length < 3 then .ok (V.tf false).rw else .ok (sg l 2).rw
def xNot (l : List Bg) : R Rw := match trR (sg l 0) with
 | .error e => .error e
 | .ok t => .ok (V.tf (!t)).rw
def xAbs (l : List Bg) : R Rw := match nuR (sg l 0) with
 | .error e => .error e
 | .ok n => .ok (mkNum (szN n)).rw
def xRound (l : List Bg) : R Rw := match nuR (sg l 0) with
 | .error e => .error e
 | .ok a => match whR (sg l 1) with
   | .error e => .error e
   | .ok d => (tolR (rndB a d) (rndV a d)).map V.rw
def xMod (l : List Bg) : R Rw := match nuR (sg l 0) with
 | .error e => .error e
 | .ok a => match nuR (sg l 1) with
   | .error e => .error e
   | .ok b => if b = 0 then .error 3 else (tolR (modB a b) (modV a b)).map V.rw
def xFloor (l : List Bg) : R Rw := match nuR (sg l 0) with
 | .error e => .error e
 | .ok a => (tolR (floorB a) (floorV a)).map V.rw
def xSqrt (l : List Bg) : R Rw := match nuR (sg l 0) with
 | .error e => .error e
 | .ok a => (tolR (rootB a) (rootV a)).map V.rw
def xLen (l : List Bg) : R Rw := match teR (sg l 0) with
 | .error e => .error e
 | .ok s => .ok (mkNum ((s.size : Int) * 10000)).rw
/-- The beginning of a text. -/
def begB (s : ByteArray) (c : Int) : ByteArray := s.extract 0 (min c (s.size : Int)).toNat
def xLeft (l : List Bg) : R Rw := match teR (sg l 0) with
 | .error e => .error e
 | .ok s => match whO l 1 with
   | .error e => .error e
   | .ok c => if c < 0 then .error 2 else .ok (mkText (begB s c)).rw
/-- An argument as an area. -/
def arOf (b : Bg) : Bg := if b.g.area then b else ⟨⟨true, [(sgl b).rw]⟩, 1, 1⟩
def pkR (b : Bg) (row col : Int) : R Rw :=
 if row < 1 ∨ row > b.rows ∨ col < 1 ∨ col > b.cols ∨ col > (b.g.l.length : Int) then .error 1
 else if row - 1 > ((b.g.l.length : Int) - col) / b.cols then .error 1
 else match b.g.l[((row - 1) * b.cols + col - 1).toNat]? with
   | some r => .ok r
   | none => .error 1
def xIndex (l : List Bg) : R Rw := match whR (sg l 1) with
 | .error e => .error e
 | .ok row => match whO l 2 with
   | .error e => .error e
   | .ok col => match l[0]? with
     | some b => pkR (arOf b) row col
     | none => .error 2
def xIsErr (l : List Bg) : R Rw := .ok (V.tf ((sg l 0).k == 4)).rw
def xIfErr (l : List Bg) : R Rw := if (sg l 0).k = 4 then .ok (sg l 1).rw else .ok (sg l 0).rw
/-- What the function of that name comes to. -/
def xCall (s : List UInt8) (l : List Bg) : R Rw :=
 if s = [83, 85, 77] then .ok (fSum (gsOf l)).rw
 else if s = [67, 79, 85, 78, 84] then .ok (fCount (gsOf l)).rw
 else if s = [77, 73, 78] then .ok (fBest ltB (gsOf l)).rw
 else if s = [77, 65, 88] then .ok (fBest gtB (gsOf l)).rw
 else if s = [65, 86, 69, 82, 65, 71, 69] then .ok (fMean (gsOf l)).rw
 else if s = [65, 78, 68] then .ok (fAnd (gsOf l)).rw
 else if s = [79, 82] then .ok (fOr (gsOf l)).rw
 else if s = [67, 79, 78, 67, 65, 84] then .ok (fCat (gsOf l)).rw
 else if s = [73, 70] then xIf l
 else if s = [78, 79, 84] then xNot l
 else if s = [65, 66, 83] then xAbs l
 else if s = [82, 79, 85, 78, 68] then xRound l
 else if s = [77, 79, 68] then xMod l
 else if s = [70, 76, 79, 79, 82] then xFloor l
 else if s = [83, 81, 82, 84] then xSqrt l
 else if s = [76, 69, 78] then xLen l
 else if s = [76, 69, 70, 84] then xLeft l
 else if s = [73, 78, 68, 69, 88] then xIndex l
 else if s = [73, 83, 69, 82, 82, 79, 82] then xIsErr l
 else if s = [73, 70, 69, 82, 82, 79, 82] then xIfErr l
 else .error 2
/-- What is answered. -/
def ansV : R Rw → V
 | .ok r => r.v
 | .error e => mkErr e
def okN (s : List UInt8) (n : Nat) : Bool := (kno s).isSome && decide (knA s ≤ n) && decide ((n : Int) ≤ knB s)
def fnV (s : List UInt8) (l : List Bg) : V := if okN s l.length then ansV (xCall s l) else .err 2

open Go.RowKit
set_option maxHeartbeats 1000000

/-- The slice v holds the values l, in a block below B. -/
def RdV (B : Nat) (W : World) (v : Value) (l : List Rw) : Prop :=
 ∃ p c, v = .slice p l.length c ∧ l.length ≤ c ∧ (l = [] ∨ ∃ b off, p = some ⟨b, off, none⟩ ∧ b < B ∧ b < W.heap.size ∧ ∀ i r, l[i]? = some r →
   W.cell? ⟨b, off + i * 4, none⟩ = some (.int .i64 r.k) ∧ W.cell? ⟨b, off + i * 4 + 1, none⟩ = some (.int .i64 r.n) ∧ W.cell? ⟨b, off + i * 4 + 2, none⟩ = some (.string r.s) ∧ W.cell? ⟨b, off + i * 4 + 3, none⟩ = some (.int .i64 r.e))
theorem RdV.low {B : Nat} {W W' : World} {v : Value} {l : List Rw} (h : RdV B W v l) (e : Below B W W') : RdV B W' v l := by
 obtain ⟨p, c, h1, h2, h3⟩ := h
 refine ⟨p, c, h1, h2, ?_⟩
 rcases h3 with h3 | ⟨b, off, h3, h4, h5, h6⟩
 · exact .inl h3
 · refine .inr ⟨b, off, h3, h4, Nat.lt_of_lt_of_le h5 e.size, fun i r hr => ?_⟩
   have k := fun o => Below.cell e (p := ⟨b, o, none⟩) h4
   obtain ⟨k0, k1, k2, k3⟩ := h6 i r hr
   exact ⟨(k _).trans k0, (k _).trans k1, (k _).trans k2, (k _).trans k3⟩
theorem RdV.up {B B' : Nat} {W : World} {v : Value} {l : List Rw} (h : RdV B W v l) (e : B ≤ B') : RdV B' W v l := by
 obtain ⟨p, c, h1, h2, h3⟩ := h
 refine ⟨p, c, h1, h2, ?_⟩
 rcases h3 with h3 | ⟨b, off, h3, h4, h5⟩
 · exact .inl h3
 · exact .inr ⟨b, off, h3, Nat.lt_of_lt_of_le h4 e, h5⟩
theorem RdV.at {B : Nat} {W : World} {p : Option Addr} {c n : Nat} {l : List Rw} (h : RdV B W (.slice p n c) l) {i : Nat} (hi : i < l.length) :
   ∃ b off r, p = some ⟨b, off, none⟩ ∧ l[i]? = some r ∧ b < B ∧ b < W.heap.size ∧
     W.cell? ⟨b, off + i * 4, none⟩ = some (.int .i64 r.k) ∧ W.cell? ⟨b, off + i * 4 + 1, none⟩ = some (.int .i64 r.n) ∧ W.cell? ⟨b, off + i * 4 + 2, none⟩ = some (.string r.s) ∧ W.cell? ⟨b, off + i * 4 + 3, none⟩ = some (.int .i64 r.e) := by
 obtain ⟨p', c', h1, h2, h3⟩ := h
 cases h1
 rcases h3 with h3 | ⟨b, off, h3, h4, h5, h6⟩
 · subst h3; simp at hi
 · exact ⟨b, off, _, h3, List.getElem?_eq_getElem hi, h4, h5, h6 i _ (List.getElem?_eq_getElem hi)⟩
theorem RdV.len {B : Nat} {W : World} {p : Option Addr} {c n : Nat} {l : List Rw} (h : RdV B W (.slice p n c) l) : n = l.length := by
 obtain ⟨p', c', h1, _⟩ := h
 cases h1; rfl
theorem RdV.form {B : Nat} {W : World} {v : Value} {l : List Rw} (h : RdV B W v l) : ∃ p n c, v = .slice p n c ∧ n = l.length ∧ n ≤ c := by
 obtain ⟨p, c, h1, h2, _⟩ := h
 exact ⟨p, _, c, h1, rfl, h2⟩
/-- The slice v holds the arguments l, in blocks below B. -/
def RdA (B : Nat) (W : World) (v : Value) (l : List Ag) : Prop :=
 ∃ p c, v = .slice p l.length c ∧ l.length ≤ c ∧ (l = [] ∨ ∃ b off, p = some ⟨b, off, none⟩ ∧ b < B ∧ b < W.heap.size ∧ ∀ i a, l[i]? = some a → ∃ (x y : Int) (lv : Value),
   W.cell? ⟨b, off + i * 4, none⟩ = some (.bool a.area) ∧ W.cell? ⟨b, off + i * 4 + 1, none⟩ = some (.int .i64 x) ∧ W.cell? ⟨b, off + i * 4 + 2, none⟩ = some (.int .i64 y) ∧ W.cell? ⟨b, off + i * 4 + 3, none⟩ = some lv ∧ RdV B W lv a.l)
theorem RdA.low {B : Nat} {W W' : World} {v : Value} {l : List Ag} (h : RdA B W v l) (e : Below B W W') : RdA B W' v l := by
 obtain ⟨p, c, h1, h2, h3⟩ := h
 refine ⟨p, c, h1, h2, ?_⟩
 rcases h3 with h3 | ⟨b, off, h3, h4, h5, h6⟩
 · exact .inl h3
 · refine .inr ⟨b, off, h3, h4, Nat.lt_of_lt_of_le h5 e.size, fun i r hr => ?_⟩
   have k := fun o => Below.cell e (p := ⟨b, o, none⟩) h4
   obtain ⟨x, y, lv, k0, k1, k2, k3, k4⟩ := h6 i r hr
   exact ⟨x, y, lv, (k _).trans k0, (k _).trans k1, (k _).trans k2, (k _).trans k3, k4.low e⟩
theorem RdA.up {B B' : Nat} {W : World} {v : Value} {l : List Ag} (h : RdA B W v l) (e : B ≤ B') : RdA B' W v l := by
 obtain ⟨p, c, h1, h2, h3⟩ := h
 refine ⟨p, c, h1, h2, ?_⟩
 rcases h3 with h3 | ⟨b, off, h3, h4, h5, h6⟩
 · exact .inl h3
 · refine .inr ⟨b, off, h3, Nat.lt_of_lt_of_le h4 e, h5, fun i r hr => ?_⟩
   obtain ⟨x, y, lv, k0, k1, k2, k3, k4⟩ := h6 i r hr
   exact ⟨x, y, lv, k0, k1, k2, k3, k4.up e⟩
theorem RdA.at {B : Nat} {W : World} {p : Option Addr} {c n : Nat} {l : List Ag} (h : RdA B W (.slice p n c) l) {i : Nat} (hi : i < l.length) :
   ∃ (b off : Nat) (a : Ag) (x y : Int) (lv : Value), p = some ⟨b, off, none⟩ ∧ l[i]? = some a ∧ b < B ∧ b < W.heap.size ∧
     (W.cell? ⟨b, off + i * 4, none⟩ = some (.bool a.area) ∧ W.cell? ⟨b, off + i * 4 + 1, none⟩ = some (.int .i64 x) ∧ W.cell? ⟨b, off + i * 4 + 2, none⟩ = some (.int .i64 y) ∧ W.cell? ⟨b, off + i * 4 + 3, none⟩ = some lv) ∧ RdV B W lv a.l := by
 obtain ⟨p', c', h1, h2, h3⟩ := h
 cases h1
 rcases h3 with h3 | ⟨b, off, h3, h4, h5, h6⟩
 · subst h3; simp at hi
 · obtain ⟨x, y, lv, k0, k1, k2, k3, k4⟩ := h6 i _ (List.getElem?_eq_getElem hi)
   exact ⟨b, off, _, x, y, lv, h3, List.getElem?_eq_getElem hi, h4, h5, ⟨k0, k1, k2, k3⟩, k4⟩
theorem RdA.form {B : Nat} {W : World} {v : Value} {l : List Ag} (h : RdA B W v l) : ∃ p n c, v = .slice p n c ∧ n = l.length ∧ n ≤ c := by
 obtain ⟨p, c, h1, h2, _⟩ := h
 exact ⟨p, _, c, h1, rfl, h2⟩

/-- Block k is a row of bytes. -/
def RowB (W : World) (k : Nat) : Prop := ∃ c fz, W.heap[k]? = some (.cells c 5 fz)
theorem RowB.lt {W : World} {k : Nat} (h : RowB W k) : k < W.heap.size := by
 obtain ⟨c, fz, h⟩ := h
 exact (Array.getElem?_eq_some_iff.1 h).1
/-- Blocks below hi, and rows of bytes, have not turned. -/
def Env (hi : Nat) (w w' : World) : Prop := Below hi w w' ∧ ∀ k, RowB w k → w'.heap[k]? = w.heap[k]?
/-- Blocks below lo, and those from hi on that are no rows of bytes, have not turned. -/
def Mid (lo hi : Nat) (w w' : World) : Prop := Below lo w w' ∧ ∀ k, hi ≤ k → k < w.heap.size → ¬ RowB w k → w'.heap[k]? = w.heap[k]?
theorem Ext.env {w w' : World} (h : Ext w w') {hi : Nat} (hh : hi ≤ w.heap.size) : Env hi w w' := ⟨Below.mono h hh, fun k hk => h.block k hk.lt⟩
theorem Ext.mid {w w' : World} (h : Ext w w') {lo : Nat} (hh : lo ≤ w.heap.size) (hi : Nat) : Mid lo hi w w' := ⟨Below.mono h hh, fun k _ hk _ => h.block k hk⟩
theorem RowB.same {w w' : World} {k : Nat} (h : w'.heap[k]? = w.heap[k]?) : RowB w' k ↔ RowB w k := by unfold RowB; rw [h]
theorem Env.trans {hi : Nat} {a b c : World} (h : Env hi a b) (k : Env hi b c) : Env hi a c :=
 ⟨h.1.trans k.1, fun n hn => (k.2 n ((RowB.same (h.2 n hn)).2 hn)).trans (h.2 n hn)⟩
theorem Mid.trans {lo hi : Nat} {a b c : World} (h : Mid lo hi a b) (k : Mid lo hi b c) : Mid lo hi a c :=
 ⟨h.1.trans k.1, fun n h1 h2 h3 => (k.2 n h1 (Nat.lt_of_lt_of_le h2 h.1.size) (fun r => h3 ((RowB.same (h.2 n h1 h2 h3)).1 r))).trans (h.2 n h1 h2 h3)⟩
theorem Env.down {hi hi' : Nat} {a b : World} (h : Env hi' a b) (k : hi ≤ hi') : Env hi a b := ⟨h.1.mono k, h.2⟩
theorem Mid.wide {lo hi hi' : Nat} {a b : World} (h : Mid lo hi a b) (k : hi ≤ hi') : Mid lo hi' a b := ⟨h.1, fun n h1 h2 h3 => h.2 n (Nat.le_trans k h1) h2 h3⟩
theorem Mid.ext {w0 a b : World} {hi : Nat} (h : Mid w0.heap.size hi a b) (e : Ext w0 a) : Ext w0 b := Below.trans e h.1
/-- A block of its own that is no row of bytes: its cells are kept. -/
def Own4 (W : World) (b : Nat) : Prop := b < W.heap.size ∧ ¬ RowB W b
theorem Own4.mid {lo hi : Nat} {w w' : World} {b : Nat} (h : Own4 w b) (m : Mid lo hi w w') (hb : hi ≤ b) : Own4 w' b ∧ ∀ o, w'.cell? ⟨b, o, none⟩ = w.cell? ⟨b, o, none⟩ ∧ w'.frozen? ⟨b, o, none⟩ = w.frozen? ⟨b, o, none⟩ := by
 have e := m.2 b hb h.1 h.2
 exact ⟨⟨Nat.lt_of_lt_of_le h.1 m.1.size, fun r => h.2 ((RowB.same e).1 r)⟩, fun o => ⟨World.cell?_of_block (w := w) e, World.frozen?_of_block (w := w) e⟩⟩
theorem Own4.new {w w' : World} {c : Array Value} {T : TypeId} (hT : T ≠ 5) (e : Ext (w.alloc (.cells c T)) w') : Own4 w' w.heap.size := by
 have hs : w.heap.size < (w.alloc (.cells c T)).heap.size := by simp
 have h := e.block w.heap.size hs
 refine ⟨Nat.lt_of_lt_of_le hs e.size, fun r => ?_⟩
 obtain ⟨c', fz, r⟩ := (RowB.same h).1 r
 have r' : (w.heap.push (.cells c T))[w.heap.size]? = some (.cells c' 5 fz) := r
 rw [Array.getElem?_push_size] at r'
 cases r'
 exact hT rfl
/-- A function value that is shown things, one behind the other: P l is what it has made of l. -/
def FnC (w0 : World) (hi : Nat) (v : Value) {α : Type} (enc : α → Array Value) (ok : α → Prop) (P : List α → World → Prop) : Prop :=
 ∃ K cs, v = .func (.func K) #[] cs ∧ (∀ args W, (callFunc K args).run Tryz.prog W = .ok (.enter K args) W) ∧
   (∀ l W W', P l W → hi ≤ W.heap.size → Env hi W W' → P l W') ∧
   ∀ l W x, P l W → hi ≤ W.heap.size → Ext w0 W → l.length ≤ 2000000 → ok x → Calls Tryz.prog K (enc x ++ cs) W fun e w' => e = .returned (.tuple #[]) ∧ P (l ++ [x]) w' ∧ Mid w0.heap.size hi W w'
def encS (p : V × Bool) : Array Value := #[p.1.dat, .bool p.2]
def okS (p : V × Bool) : Prop := p.1.ok

set_option maxRecDepth 100000 in
theorem only_any (l : List Rw) (p : Option Addr) (n c B : Nat) (W : World) (hN : Nm W) (h : RdV B W (.slice p n c) l) :
   Calls Tryz.prog 146 #[.slice p n c] W fun e w' => e = .returned (one1 l).dat ∧ Ext W w' := by
 obtain rfl := h.len
 cases l with
 | nil =>
   go_enter Tryz.func146, Tryz.ntmps146
   go_wp2_with fail
   simp [bodyPost, results, Tryz.results146, go_sem]
   exact ⟨rfl, (Ext.refl _).alloc _⟩
 | cons r t =>
   obtain ⟨b, off, r', rfl, hr, hb, hbW, k0, k1, k2, k3⟩ := h.at (i := 0) (by simp)
   simp at hr
   subst hr
   have c0 := fun W h => vnormal_any r.k r.n r.s r.e W h
   have H : Hid (one1 (r :: t) = nm r.k r.n r.s r.e) := rfl
   obtain ⟨q0, q1, q2, q3, hq⟩ := dat4 (nm r.k r.n r.s r.e)
   rw [hq] at c0
   have HQ : Hid ((nm r.k r.n r.s r.e).dat = .agg #[.int .i64 q0, .int .i64 q1, .string q2, .int .i64 q3]) := hq
   clear hq
   obtain ⟨m, hm⟩ : ∃ m : Nat, (r :: t).length = m := ⟨_, rfl⟩
   rw [hm]
   have e1 : ((m : Int) == 0) = false := by simp; rw [← hm]; simp
   have e2 : (0 : Int) < (m : Int) := by rw [← hm]; simp only [List.length_cons]; omega
   clear hm h hb
   simp only [Nat.zero_mul, Nat.add_zero] at k0 k1 k2 k3
   go_enter Tryz.func146, Tryz.ntmps146
   go_wp2_with fail
   refine (c0 _ (hN.ext ((Ext.refl _).alloc _))).mono ?_
   rintro e w1 ⟨rfl, E1⟩
   obtain ⟨z, ⟨b0, b1, b2, b3⟩, f0, f1, f2, f3⟩ := blk_top (b := W.heap.size) (by simp) E1
   go_wp2_with fail
   exact fin4 b0 b1 b2 b3 rfl (by simp) (((Ext.refl _).alloc _).trans E1) (fun W g0 g1 g2 g3 => by simp [results, Tryz.results146, go_sem, g0, g1, g2, g3]) (fun W h => ⟨by rw [H.out, HQ.out], h⟩)

open Go.RowKit
set_option maxHeartbeats 1000000

theorem wrap_1 (k : Nat) (h : k ≤ 1000000000) : wrap64 ((k : Int) + 1) = ((k + 1 : Nat) : Int) := by unfold wrap64; omega
theorem meas (n j : Nat) (h : j + 1 ≤ n) (hw : wrap64 ((j : Int) + 1) = ((j + 1 : Nat) : Int)) : n - (intOf (.int .i64 (wrap64 ((j : Int) + 1)))).toNat < n - (intOf (.int .i64 (j : Int))).toNat := by
 rw [hw]
 show n - (((j + 1 : Nat) : Int)).toNat < n - ((j : Int)).toNat
 rw [Int.toNat_natCast, Int.toNat_natCast]
 omega
theorem seen_take {l : List Ag} {j : Nat} {a : Ag} (h : l[j]? = some a) : seen (l.take (j + 1)) = seen (l.take j) ++ seen1 a := by
 rw [List.take_add_one, h]
 show (l.take j ++ [a]).flatMap seen1 = _
 rw [List.flatMap_append]
 simp [seen]
theorem seen_le {l : List Ag} {j : Nat} {a : Ag} (h : l[j]? = some a) : (seen (l.take j)).length + (seen1 a).length ≤ (seen l).length := by
 have e : l = l.take j ++ a :: l.drop (j + 1) := by
   have h1 := List.drop_eq_getElem_cons (List.getElem?_eq_some_iff.1 h).1
   rw [(List.getElem?_eq_some_iff.1 h).2] at h1
   rw [← h1, List.take_append_drop]
 have : seen l = seen (l.take j) ++ (seen1 a ++ seen (l.drop (j + 1))) := by
   conv => lhs; rw [e]
   unfold seen
   rw [List.flatMap_append]
   rfl
 rw [this]; simp
set_option maxRecDepth 100000 in
theorem each_any (w0 : World) (hi : Nat) (gs : List Ag) (sv : Value) (Q : List (V × Bool) → World → Prop) (W : World) (p : Option Addr) (n c : Nat)
   (hA : RdA w0.heap.size W (.slice p n c) gs) (hI : AgI gs) (hlen : (seen gs).length ≤ 1500000) (hal : gs.length ≤ 1500000)
   (hF : FnC w0 hi sv encS okS Q) (hQ : Q [] W) (hh : hi ≤ W.heap.size) (hE : Ext w0 W) (hN : Nm w0) :
   Calls Tryz.prog 136 #[.slice p n c, sv] W fun e w' => e = .returned (.tuple #[]) ∧ Q (seen gs) w' ∧ Mid w0.heap.size hi W w' := by
 obtain ⟨K, cs, rfl, hent, hst, hca⟩ := hF
 have hn : n = gs.length := by obtain ⟨p', c', h1, _⟩ := hA; cases h1; rfl
 have HA : Hid (RdA w0.heap.size W (.slice p n c) gs) := hA
 have HI : Hid (AgI gs ∧ (seen gs).length ≤ 1500000 ∧ n = gs.length ∧ n ≤ 1500000) := ⟨hI, hlen, hn, by omega⟩
 have HS : Hid (∀ l W W', Q l W → hi ≤ W.heap.size → Env hi W W' → Q l W') := hst
 have HC : Hid (∀ l W x, Q l W → hi ≤ W.heap.size → Ext w0 W → l.length ≤ 2000000 → okS x → Calls Tryz.prog K (encS x ++ cs) W fun e w' => e = .returned (.tuple #[]) ∧ Q (l ++ [x]) w' ∧ Mid w0.heap.size hi W w') := hca
 have HW : Hid (Ext w0 W ∧ Nm w0 ∧ hi ≤ W.heap.size) := ⟨hE, hN, hh⟩
 have HQ : Hid (Q [] W) := hQ
 clear hA hI hlen hal hst hca hE hN hQ hn hh
 go_enter Tryz.func136, Tryz.ntmps136
 go_wp2_with fail
 go_loopw [10] (fun iv wr => ∃ j : Nat, iv = .int .i64 (j : Int) ∧ j ≤ n ∧ Q (seen (gs.take j)) wr ∧ Mid w0.heap.size hi W wr) (fun iv _ => n - (intOf iv).toNat)
 case atStart => exact ⟨0, rfl, Nat.zero_le _, HQ.out, (Ext.refl W).mid HW.out.1.size hi⟩
 case round =>
   generalize wr = wo at hrel ⊢
   obtain ⟨j, rfl, hj, hq, hm⟩ := hrel
   have HO : Hid (Q (seen (gs.take j)) wo ∧ Mid w0.heap.size hi W wo ∧ Ext w0 wo ∧ hi ≤ wo.heap.size) := ⟨hq, hm, hm.ext HW.out.1, Nat.le_trans HW.out.2.2 hm.1.size⟩
   clear hq hm
   by_cases hlt : j < n
   · have hltI : (j : Int) < (n : Int) := by omega
     obtain ⟨b, off, a, x, y, lv, rfl, ha, hb, hbW, ⟨k0, k1, k2, k3⟩, hV⟩ := (HA.out.low HO.out.2.1.1).at (i := j) (by rw [← HI.out.2.2.1]; exact hlt)
     obtain ⟨p', n', c', rfl, hn', hc'⟩ := hV.form
     have HV : Hid (RdV w0.heap.size wo (.slice p' n' c') a.l ∧ gs[j]? = some a ∧ n' = a.l.length) := ⟨hV, ha, hn'⟩
     have WK : Hid (wrap64 ((j : Int) + 1) = ((j + 1 : Nat) : Int)) := wrap_1 j (by have := HI.out; omega)
     have HJ : Hid (j ≤ 1500000) := by show _ ≤ _; have := HI.out; omega
     clear hV ha hn' hc' hb hlt
     cases har : a.area
     · rw [har] at k0
       have HT : Hid (seen (gs.take (j + 1)) = seen (gs.take j) ++ [(one1 a.l, false)]) := by show _ = _; rw [seen_take HV.out.2.1]; unfold seen1; rw [har]; rfl
       have HU : Hid ((one1 a.l).ok ∧ (seen (gs.take j)).length ≤ 1500000) := by
         refine ⟨?_, ?_⟩
         · have := seen_ok gs HI.out.1 (one1 a.l, false) (List.mem_flatMap.2 ⟨a, List.mem_of_getElem? HV.out.2.1, by unfold seen1; rw [har]; simp⟩)
           exact this
         · have := seen_le HV.out.2.1; have := HI.out.2.1; omega
       clear har
       go_wp2_with fail
       refine (only_any a.l p' n' c' w0.heap.size _ (HW.out.2.1.ext (HO.out.2.2.1.alloc _)) (HV.out.1.low (((Below.refl _ _).alloc HO.out.2.2.1.size _)))).mono ?_
       rintro e w1 ⟨rfl, E1⟩
       have X1 : Hid (Ext wo w1) := ((Ext.refl _).alloc _).trans E1
       clear E1
       go_wp2_with fail
       refine (HC.out (seen (gs.take j)) _ (one1 a.l, false) (HS.out _ _ _ HO.out.1 HO.out.2.2.2 (X1.out.env HO.out.2.2.2)) (Nat.le_trans HO.out.2.2.2 X1.out.size) (HO.out.2.2.1.trans X1.out) (Nat.le_trans HU.out.2 (by decide)) HU.out.1).mono ?_
       rintro e w2 ⟨rfl, q2, m2⟩
       have H2 : Hid (Q (seen (gs.take (j + 1))) w2 ∧ Mid w0.heap.size hi W w2) := ⟨by rw [HT.out]; exact q2, HO.out.2.1.trans ((X1.out.mid HO.out.2.2.1.size hi).trans m2)⟩
       have hj1 : j + 1 ≤ n := by omega
       clear q2 m2
       have wk := WK.out
       go_wp2_with fail
       go_roundw
       case rel => exact ⟨j + 1, by go_num, hj1, H2.out.1, H2.out.2⟩
       case measure => exact meas n j hj1 wk
     · rw [har] at k0
       have HT : Hid (seen (gs.take (j + 1)) = seen (gs.take j) ++ a.l.map (fun r => (r.v, true))) := by show _ = _; rw [seen_take HV.out.2.1]; unfold seen1; rw [har]; rfl
       have HU : Hid ((∀ r ∈ a.l, r.v.ok) ∧ (seen (gs.take j)).length + a.l.length ≤ 1500000) := by
         refine ⟨fun r hr => nm_ok _ _ _ _ (HI.out.1 a (List.mem_of_getElem? HV.out.2.1) r hr), ?_⟩
         have h1 := seen_le HV.out.2.1
         have h2 := HI.out.2.1
         have h3 : (seen1 a).length = a.l.length := by unfold seen1; rw [har]; simp
         omega
       clear har
       go_wp2_with fail
       go_loopw [25] (fun iv w3 => ∃ i : Nat, iv = .int .i64 (i : Int) ∧ i ≤ n' ∧ Q (seen (gs.take j) ++ (a.l.take i).map (fun r => (r.v, true))) w3 ∧ Mid w0.heap.size hi W w3 ∧ Mid w0.heap.size hi wo w3) (fun iv _ => n' - (intOf iv).toNat)
       case atStart =>
         have X1 : Ext wo (wo.alloc (.cells #[.bool true, .int .i64 x, .int .i64 y, .slice p' n' c'] 31)) := (Ext.refl _).alloc _
         refine ⟨0, rfl, Nat.zero_le _, ?_, HO.out.2.1.trans (X1.mid HO.out.2.2.1.size hi), X1.mid HO.out.2.2.1.size hi⟩
         simp only [List.take_zero, List.map_nil, List.append_nil]
         exact HS.out _ _ _ HO.out.1 HO.out.2.2.2 (X1.env HO.out.2.2.2)
       case round =>
         obtain ⟨i, rfl, hi', hq, hm, hm'⟩ := hrel
         have HP : Hid (Q (seen (gs.take j) ++ (a.l.take i).map (fun r => (r.v, true))) wr ∧ Mid w0.heap.size hi W wr ∧ Ext w0 wr ∧ hi ≤ wr.heap.size ∧ Mid w0.heap.size hi wo wr) := ⟨hq, hm, hm.ext HW.out.1, Nat.le_trans HW.out.2.2 hm.1.size, hm'⟩
         clear hq hm hm' k0 k1 k2 k3 hbW
         by_cases hlt : i < n'
         · have hltJ : (i : Int) < (n' : Int) := by omega
           obtain ⟨b', off', r, rfl, hr, hb', hbW', k0, k1, k2, k3⟩ := (HV.out.1.low HP.out.2.2.2.2.1).at (i := i) (by rw [← HV.out.2.2]; exact hlt)
           have WI : Hid (wrap64 ((i : Int) + 1) = ((i + 1 : Nat) : Int)) := wrap_1 i (by have := HU.out.2; have := HV.out.2.2; omega)
           have HR : Hid (a.l[i]? = some r ∧ r.v.ok ∧ (seen (gs.take j) ++ (a.l.take i).map (fun r => (r.v, true))).length ≤ 1500000) := ⟨hr, HU.out.1 r (List.mem_of_getElem? hr), by simp; have := HU.out.2; omega⟩
           have HT2 : Hid ((seen (gs.take j) ++ (a.l.take i).map (fun r => (r.v, true))) ++ [(r.v, true)] = seen (gs.take j) ++ (a.l.take (i + 1)).map (fun r => (r.v, true))) := by
             show _ = _
             rw [List.take_add_one, hr, List.map_append, List.append_assoc]; rfl
           have cN := fun W h => vnormal_any r.k r.n r.s r.e W h
           clear hr hb' hlt
           go_wp2_with fail
           refine (cN _ (HW.out.2.1.ext (HP.out.2.2.1.alloc _))).mono ?_
           rintro e w1 ⟨rfl, E1⟩
           have X1 : Hid (Ext wr w1) := ((Ext.refl _).alloc _).trans E1
           clear E1
           go_wp2_with fail
           refine (HC.out _ _ (r.v, true) (HS.out _ _ _ HP.out.1 HP.out.2.2.2.1 (X1.out.env HP.out.2.2.2.1)) (Nat.le_trans HP.out.2.2.2.1 X1.out.size) (HP.out.2.2.1.trans X1.out) (Nat.le_trans HR.out.2.2 (by decide)) HR.out.2.1).mono ?_
           rintro e w2 ⟨rfl, q2, m2⟩
           have M2 : Mid w0.heap.size hi wr w2 := (X1.out.mid HP.out.2.2.1.size hi).trans m2
           have H2 : Hid (Q (seen (gs.take j) ++ (a.l.take (i + 1)).map (fun r => (r.v, true))) w2 ∧ Mid w0.heap.size hi W w2 ∧ Mid w0.heap.size hi wo w2) := ⟨by rw [← HT2.out]; exact q2, HP.out.2.1.trans M2, HP.out.2.2.2.2.trans M2⟩
           have hi1 : i + 1 ≤ n' := by omega
           clear q2 m2 M2
           have wi := WI.out
           go_wp2_with fail
           go_roundw
           case rel => exact ⟨i + 1, by go_num, hi1, H2.out⟩
           case measure => exact meas n' i hi1 wi
         · have hltJ : ¬ (i : Int) < (n' : Int) := by omega
           have H2 : Hid (Q (seen (gs.take (j + 1))) wr ∧ Mid w0.heap.size hi W wr) := by
             refine ⟨?_, HP.out.2.1⟩
             have h1 := HP.out.1
             have h2 := HV.out.2.2
             rw [show a.l.take i = a.l from List.take_of_length_le (by omega)] at h1
             rw [HT.out]; exact h1
           have hj1 : j + 1 ≤ n := by omega
           clear hlt
           have wk := WK.out
           go_wp2_with fail
           go_roundw
           case rel => exact ⟨j + 1, by go_num, hj1, H2.out⟩
           case measure => exact meas n j hj1 wk
   · have hltI : ¬ (j : Int) < (n : Int) := by omega
     have H2 : Hid (Q (seen gs) wo ∧ Mid w0.heap.size hi W wo) := by
       refine ⟨?_, HO.out.2.1⟩
       have h1 := HO.out.1
       have h2 := HI.out.2.2.1
       rw [show gs.take j = gs from List.take_of_length_le (by omega)] at h1
       exact h1
     clear hlt
     go_wp2_with fail
     go_end0
     exact ⟨rfl, H2.out⟩

open Go.RowKit
set_option maxHeartbeats 1000000

theorem numK_cases (s : ByteArray) : (numK s = true ∧ numR s = readV s) ∨ (numK s = false ∧ readV s = .err 2) := by
 unfold numK numR readV
 rcases rdK_cases s.data.toList with h | h | h <;> rw [h]
 · exact .inr ⟨rfl, rfl⟩
 · exact .inl ⟨rfl, rfl⟩
 · exact .inl ⟨rfl, rfl⟩
theorem vtonum_any (k n : Int) (s : ByteArray) (e : Int) (w : World) (hn : I64 n) (hN : Nm w) :
   Calls Tryz.prog 111 #[.agg #[.int .i64 k, .int .i64 n, .string s, .int .i64 e]] w fun r w' => r = .returned ((nm k n s e).toNum.dat) ∧ Ext w w' := by
 have c0 := fun W h => vnormal_any k n s e W h
 have ok := nm_ok k n s e hn
 clear hn
 generalize nm k n s e = v at c0 ok ⊢
 cases v with
 | blank =>
   simp only [V.dat] at c0
   have c1 := fun W h => vnum_any 0 W h
   rw [mkNum_is (by decide)] at c1
   simp only [V.dat] at c1
   clear ok
   go_enter Tryz.func111, Tryz.ntmps111
   go_wp2_with fail
   refine (c0 _ (hN.ext (by with_reducible repeat (first | assumption | exact Ext.refl _ | apply Ext.alloc | apply Ext.drewN | (refine Ext.setCell ?_ (by simp) _))))).mono ?_
   rintro r w1 ⟨rfl, E1⟩
   have X1 : Ext w w1 := Ext.trans (by with_reducible repeat (first | assumption | exact Ext.refl _ | apply Ext.alloc | apply Ext.drewN | (refine Ext.setCell ?_ (by simp) _))) E1
   have B0_1 := blk_top (b := w.heap.size) (by simp) (((Ext.refl _).alloc _).trans E1)
   have B1_1 := blk_top (b := w.heap.size + 1) (by simp) E1
   have D0 := B0_1
   obtain ⟨b0z, ⟨b0_0, b0_1, b0_2, b0_3⟩, b0f0, b0f1, b0f2, b0f3⟩ := D0
   have D1 := B1_1
   obtain ⟨b1z, ⟨b1_0, b1_1, b1_2, b1_3⟩, b1f0, b1f1, b1f2, b1f3⟩ := D1
   go_wp2_with fail
   refine (c1 _ (hN.ext (by with_reducible repeat (first | assumption | exact Ext.refl _ | apply Ext.alloc | apply Ext.drewN | (refine Ext.setCell ?_ (by simp) _))))).mono ?_
   rintro r w2 ⟨rfl, E2⟩
   have X2 : Ext w w2 := Ext.trans (by with_reducible repeat (first | assumption | exact Ext.refl _ | apply Ext.alloc | apply Ext.drewN | (refine Ext.setCell ?_ (by simp) _))) E2
   have B1_2 := (B1_1.far (c := w.heap.size) (by simp) _ _ _ _).ext E2
   have D1 := B1_2
   obtain ⟨b1z, ⟨b1_0, b1_1, b1_2, b1_3⟩, b1f0, b1f1, b1f2, b1f3⟩ := D1
   go_wp2_with fail
   exact finB (B1_2.set _ _ _ _) rfl (by with_reducible repeat (first | assumption | exact Ext.refl _ | apply Ext.alloc | apply Ext.drewN | (refine Ext.setCell ?_ (by simp) _))) (fun g0 g1 g2 g3 => by simp [results, Tryz.results111, go_sem, g0, g1, g2, g3]) (fun h => ⟨rfl, h⟩)
 | tf b =>
   simp only [V.dat] at c0
   cases b with
   | false =>
     simp only [Bool.false_eq_true, if_false] at c0
     have c1 := fun W h => vnum_any 0 W h
     rw [mkNum_is (by decide)] at c1
     simp only [V.dat] at c1
     clear ok
     go_enter Tryz.func111, Tryz.ntmps111
     go_wp2_with fail
     refine (c0 _ (hN.ext (by with_reducible repeat (first | assumption | exact Ext.refl _ | apply Ext.alloc | apply Ext.drewN | (refine Ext.setCell ?_ (by simp) _))))).mono ?_
     rintro r w1 ⟨rfl, E1⟩
     have X1 : Ext w w1 := Ext.trans (by with_reducible repeat (first | assumption | exact Ext.refl _ | apply Ext.alloc | apply Ext.drewN | (refine Ext.setCell ?_ (by simp) _))) E1
     have B0_1 := blk_top (b := w.heap.size) (by simp) (((Ext.refl _).alloc _).trans E1)
     have B1_1 := blk_top (b := w.heap.size + 1) (by simp) E1
     have D0 := B0_1
     obtain ⟨b0z, ⟨b0_0, b0_1, b0_2, b0_3⟩, b0f0, b0f1, b0f2, b0f3⟩ := D0
     have D1 := B1_1
     obtain ⟨b1z, ⟨b1_0, b1_1, b1_2, b1_3⟩, b1f0, b1f1, b1f2, b1f3⟩ := D1
     go_wp2_with fail
     refine (c1 _ (hN.ext (by with_reducible repeat (first | assumption | exact Ext.refl _ | apply Ext.alloc | apply Ext.drewN | (refine Ext.setCell ?_ (by simp) _))))).mono ?_
     rintro r w2 ⟨rfl, E2⟩
     have X2 : Ext w w2 := Ext.trans (by with_reducible repeat (first | assumption | exact Ext.refl _ | apply Ext.alloc | apply Ext.drewN | (refine Ext.setCell ?_ (by simp) _))) E2
     have B1_2 := (B1_1.far (c := w.heap.size) (by simp) _ _ _ _).ext E2
     have D1 := B1_2
     obtain ⟨b1z, ⟨b1_0, b1_1, b1_2, b1_3⟩, b1f0, b1f1, b1f2, b1f3⟩ := D1
     go_wp2_with fail
     exact finB (B1_2.set _ _ _ _) rfl (by with_reducible repeat (first | assumption | exact Ext.refl _ | apply Ext.alloc | apply Ext.drewN | (refine Ext.setCell ?_ (by simp) _))) (fun g0 g1 g2 g3 => by simp [results, Tryz.results111, go_sem, g0, g1, g2, g3]) (fun h => ⟨rfl, h⟩)
   | true =>
     simp only [if_true] at c0
     have c1 := fun W h => vnum_any 10000 W h
     rw [mkNum_is (by decide)] at c1
     simp only [V.dat] at c1
     clear ok
     go_enter Tryz.func111, Tryz.ntmps111
     go_wp2_with fail
     refine (c0 _ (hN.ext (by with_reducible repeat (first | assumption | exact Ext.refl _ | apply Ext.alloc | apply Ext.drewN | (refine Ext.setCell ?_ (by simp) _))))).mono ?_
     rintro r w1 ⟨rfl, E1⟩
     have X1 : Ext w w1 := Ext.trans (by with_reducible repeat (first | assumption | exact Ext.refl _ | apply Ext.alloc | apply Ext.drewN | (refine Ext.setCell ?_ (by simp) _))) E1
     have B0_1 := blk_top (b := w.heap.size) (by simp) (((Ext.refl _).alloc _).trans E1)
     have B1_1 := blk_top (b := w.heap.size + 1) (by simp) E1
     have D0 := B0_1
     obtain ⟨b0z, ⟨b0_0, b0_1, b0_2, b0_3⟩, b0f0, b0f1, b0f2, b0f3⟩ := D0
     have D1 := B1_1
     obtain ⟨b1z, ⟨b1_0, b1_1, b1_2, b1_3⟩, b1f0, b1f1, b1f2, b1f3⟩ := D1
     go_wp2_with fail
     refine (c1 _ (hN.ext (by with_reducible repeat (first | assumption | exact Ext.refl _ | apply Ext.alloc | apply Ext.drewN | (refine Ext.setCell ?_ (by simp) _))))).mono ?_
     rintro r w2 ⟨rfl, E2⟩
     have X2 : Ext w w2 := Ext.trans (by with_reducible repeat (first | assumption | exact Ext.refl _ | apply Ext.alloc | apply Ext.drewN | (refine Ext.setCell ?_ (by simp) _))) E2
     have B1_2 := (B1_1.far (c := w.heap.size) (by simp) _ _ _ _).ext E2
     have D1 := B1_2
     obtain ⟨b1z, ⟨b1_0, b1_1, b1_2, b1_3⟩, b1f0, b1f1, b1f2, b1f3⟩ := D1
     go_wp2_with fail
     exact finB (B1_2.set _ _ _ _) rfl (by with_reducible repeat (first | assumption | exact Ext.refl _ | apply Ext.alloc | apply Ext.drewN | (refine Ext.setCell ?_ (by simp) _))) (fun g0 g1 g2 g3 => by simp [results, Tryz.results111, go_sem, g0, g1, g2, g3]) (fun h => ⟨rfl, h⟩)
 | num n =>
   simp only [V.dat] at c0
   have c1 := fun W h => vnum_any n W h
   rw [mkNum_is ok.2] at c1
   simp only [V.dat] at c1
   clear ok
   go_enter Tryz.func111, Tryz.ntmps111
   go_wp2_with fail
   refine (c0 _ (hN.ext (by with_reducible repeat (first | assumption | exact Ext.refl _ | apply Ext.alloc | apply Ext.drewN | (refine Ext.setCell ?_ (by simp) _))))).mono ?_
   rintro r w1 ⟨rfl, E1⟩
   have X1 : Ext w w1 := Ext.trans (by with_reducible repeat (first | assumption | exact Ext.refl _ | apply Ext.alloc | apply Ext.drewN | (refine Ext.setCell ?_ (by simp) _))) E1
   have B0_1 := blk_top (b := w.heap.size) (by simp) (((Ext.refl _).alloc _).trans E1)
   have B1_1 := blk_top (b := w.heap.size + 1) (by simp) E1
   have D0 := B0_1
   obtain ⟨b0z, ⟨b0_0, b0_1, b0_2, b0_3⟩, b0f0, b0f1, b0f2, b0f3⟩ := D0
   have D1 := B1_1
   obtain ⟨b1z, ⟨b1_0, b1_1, b1_2, b1_3⟩, b1f0, b1f1, b1f2, b1f3⟩ := D1
   go_wp2_with fail
   refine (c1 _ (hN.ext (by with_reducible repeat (first | assumption | exact Ext.refl _ | apply Ext.alloc | apply Ext.drewN | (refine Ext.setCell ?_ (by simp) _))))).mono ?_
   rintro r w2 ⟨rfl, E2⟩
   have X2 : Ext w w2 := Ext.trans (by with_reducible repeat (first | assumption | exact Ext.refl _ | apply Ext.alloc | apply Ext.drewN | (refine Ext.setCell ?_ (by simp) _))) E2
   have B1_2 := (B1_1.far (c := w.heap.size) (by simp) _ _ _ _).ext E2
   have D1 := B1_2
   obtain ⟨b1z, ⟨b1_0, b1_1, b1_2, b1_3⟩, b1f0, b1f1, b1f2, b1f3⟩ := D1
   go_wp2_with fail
   exact finB (B1_2.set _ _ _ _) rfl (by with_reducible repeat (first | assumption | exact Ext.refl _ | apply Ext.alloc | apply Ext.drewN | (refine Ext.setCell ?_ (by simp) _))) (fun g0 g1 g2 g3 => by simp [results, Tryz.results111, go_sem, g0, g1, g2, g3]) (fun h => ⟨rfl, h⟩)
 | text s =>
   simp only [V.dat] at c0
   have c1 := fun W h => numeral_any s W (Nat.le_trans ok (by decide)) h
   have c2 := fun W h => err_any 2 W h
   rw [mkErr_is ⟨by decide, by decide⟩] at c2
   simp only [V.dat] at c2
   have hk := numK_cases s
   clear ok
   rcases hk with ⟨h1, h2⟩ | ⟨h1, h2⟩
   · rw [h1] at c1
     obtain ⟨q0, q1, q2, q3, hq⟩ := dat4 (numR s)
     rw [hq] at c1
     have H : Hid ((V.text s).toNum.dat = .agg #[.int .i64 q0, .int .i64 q1, .string q2, .int .i64 q3]) := by show (readV s).dat = _; rw [← h2]; exact hq
     clear hq h1 h2 c2
     go_enter Tryz.func111, Tryz.ntmps111
     go_wp2_with fail
     refine (c0 _ (hN.ext (by with_reducible repeat (first | assumption | exact Ext.refl _ | apply Ext.alloc | apply Ext.drewN | (refine Ext.setCell ?_ (by simp) _))))).mono ?_
     rintro r w1 ⟨rfl, E1⟩
     have X1 : Ext w w1 := Ext.trans (by with_reducible repeat (first | assumption | exact Ext.refl _ | apply Ext.alloc | apply Ext.drewN | (refine Ext.setCell ?_ (by simp) _))) E1
     have B0_1 := blk_top (b := w.heap.size) (by simp) (((Ext.refl _).alloc _).trans E1)
     have B1_1 := blk_top (b := w.heap.size + 1) (by simp) E1
     have D0 := B0_1
     obtain ⟨b0z, ⟨b0_0, b0_1, b0_2, b0_3⟩, b0f0, b0f1, b0f2, b0f3⟩ := D0
     have D1 := B1_1
     obtain ⟨b1z, ⟨b1_0, b1_1, b1_2, b1_3⟩, b1f0, b1f1, b1f2, b1f3⟩ := D1
     go_wp2_with fail
     refine (c1 _ (hN.ext (by with_reducible repeat (first | assumption | exact Ext.refl _ | apply Ext.alloc | apply Ext.drewN | (refine Ext.setCell ?_ (by simp) _))))).mono ?_
     rintro r w2 ⟨rfl, E2⟩
     have X2 : Ext w w2 := Ext.trans (by with_reducible repeat (first | assumption | exact Ext.refl _ | apply Ext.alloc | apply Ext.drewN | (refine Ext.setCell ?_ (by simp) _))) E2
     have B1_2 := (B1_1.far (c := w.heap.size) (by simp) _ _ _ _).ext E2
     have D1 := B1_2
     obtain ⟨b1z, ⟨b1_0, b1_1, b1_2, b1_3⟩, b1f0, b1f1, b1f2, b1f3⟩ := D1
     go_wp2_with fail
     exact finB ((B1_2.set _ _ _ _).ext ((Ext.refl _).alloc _)) rfl (by with_reducible repeat (first | assumption | exact Ext.refl _ | apply Ext.alloc | apply Ext.drewN | (refine Ext.setCell ?_ (by simp) _))) (fun g0 g1 g2 g3 => by simp [results, Tryz.results111, go_sem, g0, g1, g2, g3]) (fun h => ⟨by rw [H.out], h⟩)
   · rw [h1] at c1
     obtain ⟨q0, q1, q2, q3, hq⟩ := dat4 (numR s)
     rw [hq] at c1
     have H : Hid ((V.text s).toNum = .err 2) := h2
     clear hq h1 h2
     go_enter Tryz.func111, Tryz.ntmps111
     go_wp2_with fail
     refine (c0 _ (hN.ext (by with_reducible repeat (first | assumption | exact Ext.refl _ | apply Ext.alloc | apply Ext.drewN | (refine Ext.setCell ?_ (by simp) _))))).mono ?_
     rintro r w1 ⟨rfl, E1⟩
     have X1 : Ext w w1 := Ext.trans (by with_reducible repeat (first | assumption | exact Ext.refl _ | apply Ext.alloc | apply Ext.drewN | (refine Ext.setCell ?_ (by simp) _))) E1
     have B0_1 := blk_top (b := w.heap.size) (by simp) (((Ext.refl _).alloc _).trans E1)
     have B1_1 := blk_top (b := w.heap.size + 1) (by simp) E1
     have D0 := B0_1
     obtain ⟨b0z, ⟨b0_0, b0_1, b0_2, b0_3⟩, b0f0, b0f1, b0f2, b0f3⟩ := D0
     have D1 := B1_1
     obtain ⟨b1z, ⟨b1_0, b1_1, b1_2, b1_3⟩, b1f0, b1f1, b1f2, b1f3⟩ := D1
     go_wp2_with fail
     refine (c1 _ (hN.ext (by with_reducible repeat (first | assumption | exact Ext.refl _ | apply Ext.alloc | apply Ext.drewN | (refine Ext.setCell ?_ (by simp) _))))).mono ?_
     rintro r w2 ⟨rfl, E2⟩
     have X2 : Ext w w2 := Ext.trans (by with_reducible repeat (first | assumption | exact Ext.refl _ | apply Ext.alloc | apply Ext.drewN | (refine Ext.setCell ?_ (by simp) _))) E2
     have B1_2 := (B1_1.far (c := w.heap.size) (by simp) _ _ _ _).ext E2
     have D1 := B1_2
     obtain ⟨b1z, ⟨b1_0, b1_1, b1_2, b1_3⟩, b1f0, b1f1, b1f2, b1f3⟩ := D1
     go_wp2_with fail
     refine (c2 _ (hN.ext (by with_reducible repeat (first | assumption | exact Ext.refl _ | apply Ext.alloc | apply Ext.drewN | (refine Ext.setCell ?_ (by simp) _))))).mono ?_
     rintro r w3 ⟨rfl, E3⟩
     have X3 : Ext w w3 := Ext.trans (by with_reducible repeat (first | assumption | exact Ext.refl _ | apply Ext.alloc | apply Ext.drewN | (refine Ext.setCell ?_ (by simp) _))) E3
     have B1_3 := (B1_2.ext ((Ext.refl _).alloc _)).ext E3
     have D1 := B1_3
     obtain ⟨b1z, ⟨b1_0, b1_1, b1_2, b1_3⟩, b1f0, b1f1, b1f2, b1f3⟩ := D1
     go_wp2_with fail
     exact finB (B1_3.set _ _ _ _) rfl (by with_reducible repeat (first | assumption | exact Ext.refl _ | apply Ext.alloc | apply Ext.drewN | (refine Ext.setCell ?_ (by simp) _))) (fun g0 g1 g2 g3 => by simp [results, Tryz.results111, go_sem, g0, g1, g2, g3]) (fun h => ⟨by rw [H.out]; rfl, h⟩)
 | err e =>
   simp only [V.dat] at c0
   clear ok
   go_enter Tryz.func111, Tryz.ntmps111
   go_wp2_with fail
   refine (c0 _ (hN.ext (by with_reducible repeat (first | assumption | exact Ext.refl _ | apply Ext.alloc | apply Ext.drewN | (refine Ext.setCell ?_ (by simp) _))))).mono ?_
   rintro r w1 ⟨rfl, E1⟩
   have X1 : Ext w w1 := Ext.trans (by with_reducible repeat (first | assumption | exact Ext.refl _ | apply Ext.alloc | apply Ext.drewN | (refine Ext.setCell ?_ (by simp) _))) E1
   have B0_1 := blk_top (b := w.heap.size) (by simp) (((Ext.refl _).alloc _).trans E1)
   have B1_1 := blk_top (b := w.heap.size + 1) (by simp) E1
   have D0 := B0_1
   obtain ⟨b0z, ⟨b0_0, b0_1, b0_2, b0_3⟩, b0f0, b0f1, b0f2, b0f3⟩ := D0
   have D1 := B1_1
   obtain ⟨b1z, ⟨b1_0, b1_1, b1_2, b1_3⟩, b1f0, b1f1, b1f2, b1f3⟩ := D1
   go_wp2_with fail
   exact finB ((B1_1.far (c := w.heap.size) (by simp) _ _ _ _).set _ _ _ _) rfl (by with_reducible repeat (first | assumption | exact Ext.refl _ | apply Ext.alloc | apply Ext.drewN | (refine Ext.setCell ?_ (by simp) _))) (fun g0 g1 g2 g3 => by simp [results, Tryz.results111, go_sem, g0, g1, g2, g3]) (fun h => ⟨rfl, h⟩)
/-- From block lo on nothing has turned. -/
def Same (lo : Nat) (w W : World) : Prop := w.heap.size ≤ W.heap.size ∧ ∀ b o, lo ≤ b → b < w.heap.size → W.cell? ⟨b, o, none⟩ = w.cell? ⟨b, o, none⟩
theorem Same.refl (lo : Nat) (w : World) : Same lo w w := ⟨Nat.le_refl _, fun _ _ _ _ => rfl⟩
theorem Same.ext {lo : Nat} {w W W' : World} (h : Same lo w W) (e : Ext W W') : Same lo w W' := ⟨Nat.le_trans h.1 e.sz, fun b o hl hb => (e.cell.1 b o (Nat.lt_of_lt_of_le hb h.1)).trans (h.2 b o hl hb)⟩
theorem Same.set {lo : Nat} {w W : World} {p : Addr} {v : Value} (h : Same lo w W) (hc : p.block < lo) : Same lo w (W.setCell p v) := by
 refine ⟨by simpa [World.setCell] using h.1, fun b o hl hb => ?_⟩
 rw [World.cell?_setCell_far _ _ _ _ (by show p.block ≠ b; omega)]
 exact h.2 b o hl hb
theorem Same.al {lo : Nat} {w W : World} (o : Obj) (h : Same lo w W) : Same lo w (W.alloc o) := h.ext ((Ext.refl _).alloc _)
theorem Same.dr {lo : Nat} {w W : World} (h : Same lo w W) : Same lo w W.drew := h.ext ((Ext.refl _).drew)
end Go.Proofs.YtalejeknigbhjaaGreatDoor
