/-
 What is written is read as it was, with noughts ahead and behind too. Plain mathematics.
 Contracts of Mul and Div of the program; and that the laws' own small call answers true.
 Values of cells as plain data: what a value is as, what it is shown as, turned, held against another, reckoned. No program in sight.
 A struct of four fields in a block of its own: laid, kept, stored; the end of a function whose result lies in one.
 The contracts of package value's and the document's makers: Err, ErrName, Num, Text, Bool, Normal.
 The contracts of package value's and the document's Num, Text, Bool and Normal.
 The contracts of package value's and the document's Normal, and of what reads a numeral.
 Contracts of the parts of package value: the first error, ranks, which is ahead.
-/
import Derived.Test.YtjhmbkdkjgjoaaaDoorX4
import Derived.Test.YtjhmbkdkjgjoaaaDoorX3
import Derived.Test.YtjhmbkdkjgjoaaaDoorX1
import Derived.Lib.Bytealg
namespace Go.Proofs.YtjhmbkdkjgjoaaaDoor
open Go.RowKit

theorem zs_add (i j : Nat) : zs i ++ zs j = zs (i + j) := by simp [zs]
theorem take_zs (i j : Nat) (h : j ≤ i) : (zs i).take j = zs j := by simp [zs, List.take_replicate]; omega
theorem four_pad (f : List UInt8) (j k : Nat) (h : f.length + k = 4) : four (f ++ zs j) = f ++ zs k := by
 unfold four
 rw [List.append_assoc, zs_add, List.take_append, List.take_of_length_le (by omega), take_zs _ _ (by omega), show 4 - f.length = k by omega]
theorem rnd_pad (f : List UInt8) (j : Nat) (h : f.length ≤ 4) : rndN (f ++ zs j) = 0 := by
 rw [fifth_get, if_neg]
 rintro ⟨h1, h2⟩
 rw [List.getD_eq_getElem?_getD, List.getElem?_append, if_neg (by omega)] at h2
 rw [List.length_append, len_zs] at h1
 rw [List.getElem?_eq_getElem (by rw [len_zs]; omega), zs_get] at h2
 exact absurd h2 (by decide)
theorem size_plain (c : UInt8) (x : List UInt8) (h : dgB c = true) : minusB (c :: x) = false ∧ sizeL (c :: x) = c :: x := by
 have hc : c ≠ 45 := by intro e; subst e; exact absurd h (by decide)
 have : minusB (c :: x) = false := by
   show ((some c : Option UInt8) == some 45) = false
   simpa using hc
 exact ⟨this, by unfold sizeL; rw [this]; rfl⟩
theorem size_plain' (A x : List UInt8) (h : A.all dgB = true) (h1 : 1 ≤ A.length) : minusB (A ++ x) = false ∧ sizeL (A ++ x) = A ++ x := by
 cases A with
 | nil => simp at h1
 | cons c A => rw [List.all_cons, Bool.and_eq_true] at h; exact size_plain c _ h.1
theorem size_minus (x : List UInt8) : minusB (45 :: x) = true ∧ sizeL (45 :: x) = x := ⟨rfl, rfl⟩
def sgnL (neg : Bool) (x : List UInt8) : List UInt8 := if neg then 45 :: x else x
theorem sgn_parts (neg : Bool) (A x : List UInt8) (h : A.all dgB = true) (h1 : 1 ≤ A.length) : minusB (sgnL neg (A ++ x)) = neg ∧ sizeL (sgnL neg (A ++ x)) = A ++ x := by
 cases neg
 · exact size_plain' A x h h1
 · exact size_minus _
theorem num_bare (neg : Bool) (A : List UInt8) (hA : okD A = true) : numB (sgnL neg A) = true ∧ numN (sgnL neg A) = nv A [] ∧ minusB (sgnL neg A) = neg := by
 have a := okD_bd hA
 have a1 : 1 ≤ A.length := ((ok_iff A).1 hA).1.1
 obtain ⟨m, z⟩ := sgn_parts neg A [] a.2 a1
 rw [List.append_nil] at m z
 obtain ⟨d1, d2, d3⟩ := dot_no a.2
 refine ⟨?_, ?_, m⟩
 · unfold numB; rw [z, d1, d2, hA]; rfl
 · unfold numN; rw [z, d2, d3]
theorem nv_pad (i j q r : Nat) (hr : r < 10000) : nv (zs i ++ Lib.decDigits q) (fracL r ++ zs j) = q * 10000 + r := by
 obtain ⟨k, hk, hl⟩ := frac_back r hr
 unfold nv
 rw [four_pad _ _ k hl, rnd_pad _ _ (by omega), ← hk, List.append_assoc, val_append, val_zs, val_append, dec_val, F4_val r hr]
 simp [F4]
theorem nv_bare (q : Nat) : nv (Lib.decDigits q) [] = q * 10000 := by
 have := nv_pad 0 0 q 0 (by omega)
 rw [frac_zero] at this
 simpa [zs] using this

open Go.RowKit
set_option maxHeartbeats 1000000

open Go.RowKit

/-- A value that can be, without what plays no part. -/
inductive V where
 | blank
 | tf (b : Bool)
 | num (n : Int)
 | text (s : ByteArray)
 | err (e : Int)
def V.dat : V → Value
 | .blank => .agg #[.int .i64 0, .int .i64 0, .string ⟨#[]⟩, .int .i64 0]
 | .tf b => .agg #[.int .i64 1, .int .i64 (if b then 1 else 0), .string ⟨#[]⟩, .int .i64 0]
 | .num n => .agg #[.int .i64 2, .int .i64 n, .string ⟨#[]⟩, .int .i64 0]
 | .text s => .agg #[.int .i64 3, .int .i64 0, .string s, .int .i64 0]
 | .err e => .agg #[.int .i64 4, .int .i64 0, .string ⟨#[]⟩, .int .i64 e]
def V.ok : V → Prop
 | .num n => I64 n ∧ canB n = true
 | .text s => s.size ≤ 300
 | .err e => 1 ≤ e ∧ e ≤ 5
 | _ => True
def mkErr (e : Int) : V := .err (if 1 ≤ e ∧ e ≤ 5 then e else 2)
def mkNum (n : Int) : V := if canB n then .num n else .err 4
def mkText (s : ByteArray) : V := if s.size ≤ 300 then .text s else .err 2
/-- What the fields are as. -/
def nm (k n : Int) (s : ByteArray) (e : Int) : V :=
 if k = 1 then .tf (n != 0) else if k = 2 then mkNum n else if k = 3 then mkText s else if k = 4 then mkErr e else .blank
theorem mkErr_is {e : Int} (h : 1 ≤ e ∧ e ≤ 5) : mkErr e = .err e := by unfold mkErr; rw [if_pos h]
theorem mkNum_is {n : Int} (h : canB n = true) : mkNum n = .num n := by unfold mkNum; rw [if_pos h]
theorem mkText_is {s : ByteArray} (h : s.size ≤ 300) : mkText s = .text s := by unfold mkText; rw [if_pos h]
def trueL : List UInt8 := [84, 82, 85, 69]
def falseL : List UInt8 := [70, 65, 76, 83, 69]
def errName (e : Int) : List UInt8 :=
 if e = 1 then [35, 82, 69, 70, 33] else if e = 2 then [35, 86, 65, 76, 85, 69, 33] else if e = 3 then [35, 68, 73, 86, 47, 48, 33] else if e = 4 then [35, 78, 85, 77, 33] else if e = 5 then [35, 67, 89, 67, 76, 69, 33] else []
def V.shown : V → ByteArray
 | .blank => ⟨#[]⟩
 | .tf b => bs (if b then trueL else falseL)
 | .num n => bs (printL n)
 | .text s => s
 | .err e => bs (errName e)
/-- What a numeral says. -/
def readV (s : ByteArray) : V := if rdK s.data.toList = 1 then .num (rdV s.data.toList) else if rdK s.data.toList = 2 then .err 4 else .err 2
def V.toNum : V → V
 | .blank => .num 0
 | .tf b => .num (if b then 10000 else 0)
 | .text s => readV s
 | v => v
def V.neg (v : V) : V := match v.toNum with
 | .num n => .num (-n)
 | u => u
/-- What a cell's text is. -/
def nameE (l : List UInt8) : Int := if l = errName 1 then 1 else if l = errName 2 then 2 else if l = errName 3 then 3 else if l = errName 4 then 4 else if l = errName 5 then 5 else 0
def lit (s : ByteArray) : V :=
 if s.data.toList = [] then .blank
 else if s.data.toList.head? = some 39 then mkText (bs (s.data.toList.drop 1))
 else if rdK s.data.toList = 1 then .num (rdV s.data.toList)
 else if rdK s.data.toList = 2 then .err 4
 else if s.data.toList = trueL then .tf true
 else if s.data.toList = falseL then .tf false
 else if nameE s.data.toList ≠ 0 then .err (nameE s.data.toList)
 else mkText s

/-! ### Which is ahead -/
/-! ### The order -/

open Go.RowKit
set_option maxHeartbeats 1000000

theorem keep4 {w w1 : World} {a b c d : Value} {T : TypeId} (E : Ext (w.alloc (.cells #[a, b, c, d] T)) w1) : w.heap.size < w1.heap.size ∧
   (w1.cell? ⟨w.heap.size, 0, none⟩ = some a ∧ w1.cell? ⟨w.heap.size, 1, none⟩ = some b ∧ w1.cell? ⟨w.heap.size, 2, none⟩ = some c ∧ w1.cell? ⟨w.heap.size, 3, none⟩ = some d) ∧
   (w1.frozen? ⟨w.heap.size, 0, none⟩ = false ∧ w1.frozen? ⟨w.heap.size, 1, none⟩ = false ∧ w1.frozen? ⟨w.heap.size, 2, none⟩ = false ∧ w1.frozen? ⟨w.heap.size, 3, none⟩ = false) := by
 have hs : w.heap.size < (w.alloc (.cells #[a, b, c, d] T)).heap.size := by simp
 have k := fun o => E.cell.1 w.heap.size o hs
 have f := fun o => E.cell.2 w.heap.size o hs
 refine ⟨Nat.lt_of_lt_of_le hs E.sz, ⟨(k 0).trans ?_, (k 1).trans ?_, (k 2).trans ?_, (k 3).trans ?_⟩, (f 0).trans ?_, (f 1).trans ?_, (f 2).trans ?_, (f 3).trans ?_⟩
 all_goals simp [go_sem]
/-- The end of a function whose result lies in a block of its own: four cells are laid, and read. -/
theorem fin4g (v : Value) {fn : Func} {Q : Ending → World → Prop} {a : Act} {w w1 : World} {b : Nat} {o0 o1 o2 o3 x0 x1 x2 x3 : Value}
   (k0 : w1.cell? ⟨b, 0, none⟩ = some o0) (k1 : w1.cell? ⟨b, 1, none⟩ = some o1) (k2 : w1.cell? ⟨b, 2, none⟩ = some o2) (k3 : w1.cell? ⟨b, 3, none⟩ = some o3)
   (hd : a.defers = []) (hb : w.heap.size ≤ b) (E : Ext w w1)
   (hr : ∀ W : World, W.cell? ⟨b, 0, none⟩ = some x0 → W.cell? ⟨b, 1, none⟩ = some x1 → W.cell? ⟨b, 2, none⟩ = some x2 → W.cell? ⟨b, 3, none⟩ = some x3 → (results fn a.tmps).run Tryd.prog W = .ok v W)
   (hQ : ∀ W, Ext w W → Q (.returned v) W) :
   bodyPost Tryd.prog fn Q .ret a ((((w1.setCell ⟨b, 0, none⟩ x0).setCell ⟨b, 1, none⟩ x1).setCell ⟨b, 2, none⟩ x2).setCell ⟨b, 3, none⟩ x3) := by
 have e0 := World.cell?_setCell_same w1 ⟨b, 0, none⟩ x0 (by rw [k0])
 have j1 : (w1.setCell ⟨b, 0, none⟩ x0).cell? ⟨b, 1, none⟩ = some o1 := by rw [World.cell?_setCell_other _ _ _ _ (by simp)]; exact k1
 have e1 := World.cell?_setCell_same _ ⟨b, 1, none⟩ x1 (by rw [j1])
 have j2 : ((w1.setCell ⟨b, 0, none⟩ x0).setCell ⟨b, 1, none⟩ x1).cell? ⟨b, 2, none⟩ = some o2 := by rw [World.cell?_setCell_other _ _ _ _ (by simp), World.cell?_setCell_other _ _ _ _ (by simp)]; exact k2
 have e2 := World.cell?_setCell_same _ ⟨b, 2, none⟩ x2 (by rw [j2])
 have j3 : (((w1.setCell ⟨b, 0, none⟩ x0).setCell ⟨b, 1, none⟩ x1).setCell ⟨b, 2, none⟩ x2).cell? ⟨b, 3, none⟩ = some o3 := by
   rw [World.cell?_setCell_other _ _ _ _ (by simp), World.cell?_setCell_other _ _ _ _ (by simp), World.cell?_setCell_other _ _ _ _ (by simp)]; exact k3
 have e3 := World.cell?_setCell_same _ ⟨b, 3, none⟩ x3 (by rw [j3])
 refine bodyPost_ret (hr _ ?_ ?_ ?_ e3) hd (hQ _ ((((E.setCell hb _).setCell hb _).setCell hb _).setCell hb _))
 · rw [World.cell?_setCell_other _ _ _ _ (by simp), World.cell?_setCell_other _ _ _ _ (by simp), World.cell?_setCell_other _ _ _ _ (by simp)]; exact e0
 · rw [World.cell?_setCell_other _ _ _ _ (by simp), World.cell?_setCell_other _ _ _ _ (by simp)]; exact e1
 · rw [World.cell?_setCell_other _ _ _ _ (by simp)]; exact e2
theorem fin4 {fn : Func} {Q : Ending → World → Prop} {a : Act} {w w1 : World} {b : Nat} {o0 o1 o2 o3 x0 x1 x2 x3 : Value}
   (k0 : w1.cell? ⟨b, 0, none⟩ = some o0) (k1 : w1.cell? ⟨b, 1, none⟩ = some o1) (k2 : w1.cell? ⟨b, 2, none⟩ = some o2) (k3 : w1.cell? ⟨b, 3, none⟩ = some o3)
   (hd : a.defers = []) (hb : w.heap.size ≤ b) (E : Ext w w1)
   (hr : ∀ W : World, W.cell? ⟨b, 0, none⟩ = some x0 → W.cell? ⟨b, 1, none⟩ = some x1 → W.cell? ⟨b, 2, none⟩ = some x2 → W.cell? ⟨b, 3, none⟩ = some x3 → (results fn a.tmps).run Tryd.prog W = .ok (.agg #[x0, x1, x2, x3]) W)
   (hQ : ∀ W, Ext w W → Q (.returned (.agg #[x0, x1, x2, x3])) W) :
   bodyPost Tryd.prog fn Q .ret a ((((w1.setCell ⟨b, 0, none⟩ x0).setCell ⟨b, 1, none⟩ x1).setCell ⟨b, 2, none⟩ x2).setCell ⟨b, 3, none⟩ x3) := fin4g _ k0 k1 k2 k3 hd hb E hr hQ
theorem fin4b (t : Bool) {fn : Func} {Q : Ending → World → Prop} {a : Act} {w w1 : World} {b : Nat} {o0 o1 o2 o3 x0 x1 x2 x3 : Value}
   (k0 : w1.cell? ⟨b, 0, none⟩ = some o0) (k1 : w1.cell? ⟨b, 1, none⟩ = some o1) (k2 : w1.cell? ⟨b, 2, none⟩ = some o2) (k3 : w1.cell? ⟨b, 3, none⟩ = some o3)
   (hd : a.defers = []) (hb : w.heap.size ≤ b) (E : Ext w w1)
   (hr : ∀ W : World, W.cell? ⟨b, 0, none⟩ = some x0 → W.cell? ⟨b, 1, none⟩ = some x1 → W.cell? ⟨b, 2, none⟩ = some x2 → W.cell? ⟨b, 3, none⟩ = some x3 → (results fn a.tmps).run Tryd.prog W = .ok (.tuple #[.agg #[x0, x1, x2, x3], .bool t]) W)
   (hQ : ∀ W, Ext w W → Q (.returned (.tuple #[.agg #[x0, x1, x2, x3], .bool t])) W) :
   bodyPost Tryd.prog fn Q .ret a ((((w1.setCell ⟨b, 0, none⟩ x0).setCell ⟨b, 1, none⟩ x1).setCell ⟨b, 2, none⟩ x2).setCell ⟨b, 3, none⟩ x3) := fin4g _ k0 k1 k2 k3 hd hb E hr hQ
/-! ### Blocks of four cells -/
def Blk (W : World) (b : Nat) (x0 x1 x2 x3 : Value) : Prop := b < W.heap.size ∧
 (W.cell? ⟨b, 0, none⟩ = some x0 ∧ W.cell? ⟨b, 1, none⟩ = some x1 ∧ W.cell? ⟨b, 2, none⟩ = some x2 ∧ W.cell? ⟨b, 3, none⟩ = some x3) ∧
 (W.frozen? ⟨b, 0, none⟩ = false ∧ W.frozen? ⟨b, 1, none⟩ = false ∧ W.frozen? ⟨b, 2, none⟩ = false ∧ W.frozen? ⟨b, 3, none⟩ = false)
theorem blk_top {w w1 : World} {x0 x1 x2 x3 : Value} {T : TypeId} {b : Nat} (hb : b = w.heap.size) (E : Ext (w.alloc (.cells #[x0, x1, x2, x3] T)) w1) : Blk w1 b x0 x1 x2 x3 := by subst hb; exact keep4 E
theorem Blk.ext {w w' : World} {b : Nat} {x0 x1 x2 x3 : Value} (h : Blk w b x0 x1 x2 x3) (e : Ext w w') : Blk w' b x0 x1 x2 x3 := by
 obtain ⟨z, ⟨k0, k1, k2, k3⟩, f0, f1, f2, f3⟩ := h
 have k := fun o => e.cell.1 b o z
 have f := fun o => e.cell.2 b o z
 exact ⟨Nat.lt_of_lt_of_le z e.sz, ⟨(k 0).trans k0, (k 1).trans k1, (k 2).trans k2, (k 3).trans k3⟩, (f 0).trans f0, (f 1).trans f1, (f 2).trans f2, (f 3).trans f3⟩
theorem Blk.far1 {w : World} {b c : Nat} {x0 x1 x2 x3 : Value} (h : Blk w b x0 x1 x2 x3) (hc : c ≠ b) (o : Nat) (v : Value) : Blk (w.setCell ⟨c, o, none⟩ v) b x0 x1 x2 x3 := by
 obtain ⟨z, ⟨k0, k1, k2, k3⟩, f0, f1, f2, f3⟩ := h
 refine ⟨by simpa [World.setCell] using z, ⟨?_, ?_, ?_, ?_⟩, ?_, ?_, ?_, ?_⟩
 · rw [World.cell?_setCell_far _ _ _ _ hc]; exact k0
 · rw [World.cell?_setCell_far _ _ _ _ hc]; exact k1
 · rw [World.cell?_setCell_far _ _ _ _ hc]; exact k2
 · rw [World.cell?_setCell_far _ _ _ _ hc]; exact k3
 · rw [World.frozen?_setCell]; exact f0
 · rw [World.frozen?_setCell]; exact f1
 · rw [World.frozen?_setCell]; exact f2
 · rw [World.frozen?_setCell]; exact f3
theorem Blk.far {w : World} {b c : Nat} {x0 x1 x2 x3 : Value} (h : Blk w b x0 x1 x2 x3) (hc : c ≠ b) (y0 y1 y2 y3 : Value) :
   Blk ((((w.setCell ⟨c, 0, none⟩ y0).setCell ⟨c, 1, none⟩ y1).setCell ⟨c, 2, none⟩ y2).setCell ⟨c, 3, none⟩ y3) b x0 x1 x2 x3 := (((h.far1 hc _ _).far1 hc _ _).far1 hc _ _).far1 hc _ _
theorem Blk.set {w1 : World} {b : Nat} {o0 o1 o2 o3 : Value} (h : Blk w1 b o0 o1 o2 o3) (x0 x1 x2 x3 : Value) :
   Blk ((((w1.setCell ⟨b, 0, none⟩ x0).setCell ⟨b, 1, none⟩ x1).setCell ⟨b, 2, none⟩ x2).setCell ⟨b, 3, none⟩ x3) b x0 x1 x2 x3 := by
 obtain ⟨z, ⟨k0, k1, k2, k3⟩, f0, f1, f2, f3⟩ := h
 have e0 := World.cell?_setCell_same w1 ⟨b, 0, none⟩ x0 (by rw [k0])
 have j1 : (w1.setCell ⟨b, 0, none⟩ x0).cell? ⟨b, 1, none⟩ = some o1 := by rw [World.cell?_setCell_other _ _ _ _ (by simp)]; exact k1
 have e1 := World.cell?_setCell_same _ ⟨b, 1, none⟩ x1 (by rw [j1])
 have j2 : ((w1.setCell ⟨b, 0, none⟩ x0).setCell ⟨b, 1, none⟩ x1).cell? ⟨b, 2, none⟩ = some o2 := by rw [World.cell?_setCell_other _ _ _ _ (by simp), World.cell?_setCell_other _ _ _ _ (by simp)]; exact k2
 have e2 := World.cell?_setCell_same _ ⟨b, 2, none⟩ x2 (by rw [j2])
 have j3 : (((w1.setCell ⟨b, 0, none⟩ x0).setCell ⟨b, 1, none⟩ x1).setCell ⟨b, 2, none⟩ x2).cell? ⟨b, 3, none⟩ = some o3 := by
   rw [World.cell?_setCell_other _ _ _ _ (by simp), World.cell?_setCell_other _ _ _ _ (by simp), World.cell?_setCell_other _ _ _ _ (by simp)]; exact k3
 have e3 := World.cell?_setCell_same _ ⟨b, 3, none⟩ x3 (by rw [j3])
 refine ⟨by simpa [World.setCell] using z, ⟨?_, ?_, ?_, e3⟩, ?_, ?_, ?_, ?_⟩
 · rw [World.cell?_setCell_other _ _ _ _ (by simp), World.cell?_setCell_other _ _ _ _ (by simp), World.cell?_setCell_other _ _ _ _ (by simp)]; exact e0
 · rw [World.cell?_setCell_other _ _ _ _ (by simp), World.cell?_setCell_other _ _ _ _ (by simp)]; exact e1
 · rw [World.cell?_setCell_other _ _ _ _ (by simp)]; exact e2
 · simp only [World.frozen?_setCell]; exact f0
 · simp only [World.frozen?_setCell]; exact f1
 · simp only [World.frozen?_setCell]; exact f2
 · simp only [World.frozen?_setCell]; exact f3
theorem Blk.dr {w : World} {b : Nat} {x0 x1 x2 x3 : Value} (h : Blk w b x0 x1 x2 x3) : Blk w.drew b x0 x1 x2 x3 := h.ext (Ext.drew (Ext.refl _))
theorem Blk.al {w : World} {b : Nat} {x0 x1 x2 x3 : Value} (o : Obj) (h : Blk w b x0 x1 x2 x3) : Blk (w.alloc o) b x0 x1 x2 x3 := h.ext (Ext.alloc (Ext.refl _) _)
theorem Blk.put0 {w : World} {b : Nat} {x0 x1 x2 x3 : Value} (h : Blk w b x0 x1 x2 x3) (v : Value) : Blk (w.setCell ⟨b, 0, none⟩ v) b v x1 x2 x3 := by
 obtain ⟨z, ⟨k0, k1, k2, k3⟩, f0, f1, f2, f3⟩ := h
 refine ⟨by simpa [World.setCell] using z, ⟨World.cell?_setCell_same _ ⟨b, 0, none⟩ _ (by rw [k0]), ?_, ?_, ?_⟩, ?_, ?_, ?_, ?_⟩
 · rw [World.cell?_setCell_other _ _ _ _ (by simp)]; exact k1
 · rw [World.cell?_setCell_other _ _ _ _ (by simp)]; exact k2
 · rw [World.cell?_setCell_other _ _ _ _ (by simp)]; exact k3
 · rw [World.frozen?_setCell]; exact f0
 · rw [World.frozen?_setCell]; exact f1
 · rw [World.frozen?_setCell]; exact f2
 · rw [World.frozen?_setCell]; exact f3
theorem Blk.put1 {w : World} {b : Nat} {x0 x1 x2 x3 : Value} (h : Blk w b x0 x1 x2 x3) (v : Value) : Blk (w.setCell ⟨b, 1, none⟩ v) b x0 v x2 x3 := by
 obtain ⟨z, ⟨k0, k1, k2, k3⟩, f0, f1, f2, f3⟩ := h
 refine ⟨by simpa [World.setCell] using z, ⟨?_, World.cell?_setCell_same _ ⟨b, 1, none⟩ _ (by rw [k1]), ?_, ?_⟩, ?_, ?_, ?_, ?_⟩
 · rw [World.cell?_setCell_other _ _ _ _ (by simp)]; exact k0
 · rw [World.cell?_setCell_other _ _ _ _ (by simp)]; exact k2
 · rw [World.cell?_setCell_other _ _ _ _ (by simp)]; exact k3
 · rw [World.frozen?_setCell]; exact f0
 · rw [World.frozen?_setCell]; exact f1
 · rw [World.frozen?_setCell]; exact f2
 · rw [World.frozen?_setCell]; exact f3

open Go.RowKit
set_option maxHeartbeats 1000000

/-- The errors' names lie where the program's text lays them. -/
def Nm (w : World) : Prop := 0 < w.heap.size ∧
 w.cell? ⟨0, 0, none⟩ = some (.string ⟨#[]⟩) ∧ w.cell? ⟨0, 1, none⟩ = some (.string ⟨#[35, 82, 69, 70, 33]⟩) ∧ w.cell? ⟨0, 2, none⟩ = some (.string ⟨#[35, 86, 65, 76, 85, 69, 33]⟩) ∧
 w.cell? ⟨0, 3, none⟩ = some (.string ⟨#[35, 68, 73, 86, 47, 48, 33]⟩) ∧ w.cell? ⟨0, 4, none⟩ = some (.string ⟨#[35, 78, 85, 77, 33]⟩) ∧ w.cell? ⟨0, 5, none⟩ = some (.string ⟨#[35, 67, 89, 67, 76, 69, 33]⟩)
theorem Nm.ext {w w' : World} (h : Nm w) (e : Ext w w') : Nm w' := by
 obtain ⟨hs, h0, h1, h2, h3, h4, h5⟩ := h
 have k := fun o => e.cell.1 0 o hs
 exact ⟨Nat.lt_of_lt_of_le hs e.sz, (k 0).trans h0, (k 1).trans h1, (k 2).trans h2, (k 3).trans h3, (k 4).trans h4, (k 5).trans h5⟩
theorem err_none {e : Int} (h : ¬ (1 ≤ e ∧ e ≤ 5)) : errName e = [] := by
 unfold errName
 repeat (first | (rw [if_neg (by omega)]) | rfl)
theorem errname_any (e : Int) (w : World) (hN : Nm w) : Calls Tryd.prog 32 #[.int .i64 e] w fun r w' => r = .returned (.string (bs (errName e))) ∧ w' = w := by
 obtain ⟨hs, h0, h1, h2, h3, h4, h5⟩ := hN
 by_cases h : 0 ≤ e ∧ e < 6
 · have hh : e = 0 ∨ e = 1 ∨ e = 2 ∨ e = 3 ∨ e = 4 ∨ e = 5 := by omega
   rcases hh with rfl | rfl | rfl | rfl | rfl | rfl
   all_goals
     clear h
     go_enter Tryd.func32, Tryd.ntmps32
     go_wp2_with fail
     go_ret
     exact ⟨rfl, rfl⟩
 · have H : Hid (errName e = []) := err_none (by omega)
   by_cases hn : e < 0
   · clear h h0 h1 h2 h3 h4 h5
     go_enter Tryd.func32, Tryd.ntmps32
     go_wp2_with fail
     go_ret
     exact ⟨by rw [H.out]; rfl, rfl⟩
   · have hg : 6 ≤ e := by omega
     clear h h0 h1 h2 h3 h4 h5
     go_enter Tryd.func32, Tryd.ntmps32
     go_wp2_with fail
     go_ret
     exact ⟨by rw [H.out]; rfl, rfl⟩
theorem err_any (e : Int) (w : World) (hN : Nm w) : Calls Tryd.prog 16 #[.int .i64 e] w fun r w' => r = .returned (mkErr e).dat ∧ Ext w w' := by
 have c := fun W h => errname_any e W h
 by_cases h : 1 ≤ e ∧ e ≤ 5
 · have H : Hid (mkErr e = .err e) := mkErr_is h
   have hz : (bs (errName e)).toList.isEmpty = false := by
     have hh : e = 1 ∨ e = 2 ∨ e = 3 ∨ e = 4 ∨ e = 5 := by omega
     rw [ByteArray.toList_eq]
     rcases hh with rfl | rfl | rfl | rfl | rfl <;> decide
   generalize bs (errName e) = q at c hz
   clear h
   go_enter Tryd.func16, Tryd.ntmps16
   go_wp2_with fail
   refine (c _ (hN.ext ((Ext.refl _).alloc _))).mono ?_
   rintro r w1 ⟨rfl, rfl⟩
   go_wp2_with fail
   simp [bodyPost, results, Tryd.results16, go_sem]
   exact ⟨by rw [H.out]; rfl, (Ext.refl _).alloc _⟩
 · have H : Hid (mkErr e = .err 2) := by show mkErr e = _; unfold mkErr; rw [if_neg h]
   have hz : (bs (errName e)).toList.isEmpty = true := by rw [ByteArray.toList_eq, err_none h]; decide
   generalize bs (errName e) = q at c hz
   clear h
   go_enter Tryd.func16, Tryd.ntmps16
   go_wp2_with fail
   refine (c _ (hN.ext ((Ext.refl _).alloc _))).mono ?_
   rintro r w1 ⟨rfl, rfl⟩
   go_wp2_with fail
   simp [bodyPost, results, Tryd.results16, go_sem]
   exact ⟨by rw [H.out]; rfl, (Ext.refl _).alloc _⟩
theorem rerr_any (e : Int) (w : World) : Calls Tryd.prog 20 #[.int .i64 e] w fun r w' => r = .returned (mkErr e).dat ∧ Ext w w' := by
 by_cases h : e < 1
 · have H : Hid (mkErr e = .err 2) := by show mkErr e = _; unfold mkErr; rw [if_neg (by omega)]
   go_enter Tryd.func20, Tryd.ntmps20
   go_wp2_with fail
   simp [bodyPost, results, Tryd.results20, go_sem]
   exact ⟨by rw [H.out]; rfl, (Ext.refl _).alloc _⟩
 · by_cases g : e > 5
   · have H : Hid (mkErr e = .err 2) := by show mkErr e = _; unfold mkErr; rw [if_neg (by omega)]
     go_enter Tryd.func20, Tryd.ntmps20
     go_wp2_with fail
     simp [bodyPost, results, Tryd.results20, go_sem]
     exact ⟨by rw [H.out]; rfl, (Ext.refl _).alloc _⟩
   · have H : Hid (mkErr e = .err e) := mkErr_is ⟨by omega, by omega⟩
     go_enter Tryd.func20, Tryd.ntmps20
     go_wp2_with fail
     simp [bodyPost, results, Tryd.results20, go_sem]
     exact ⟨by rw [H.out]; rfl, (Ext.refl _).alloc _⟩

open Go.RowKit
set_option maxHeartbeats 1000000

theorem vnum_any (n : Int) (w : World) (hN : Nm w) : Calls Tryd.prog 14 #[.int .i64 n] w fun r w' => r = .returned (mkNum n).dat ∧ Ext w w' := by
 have c := fun W => can_any n W
 have c2 := fun W h => err_any 4 W h
 rw [mkErr_is ⟨by decide, by decide⟩] at c2
 simp only [V.dat] at c2
 cases hc : canB n
 · have H : Hid (mkNum n = .err 4) := by show mkNum n = _; unfold mkNum; rw [hc]; rfl
   rw [hc] at c
   clear hc
   go_enter Tryd.func14, Tryd.ntmps14
   go_wp2_with fail
   refine (c _).mono ?_
   rintro r w1 ⟨rfl, rfl⟩
   go_wp2_with fail
   refine (c2 _ (hN.ext ((Ext.refl _).alloc _))).mono ?_
   rintro r w1 ⟨rfl, E1⟩
   obtain ⟨z, ⟨k0, k1, k2, k3⟩, f0, f1, f2, f3⟩ := keep4 E1
   go_wp2_with fail
   exact fin4 k0 k1 k2 k3 rfl (Nat.le_refl _) (((Ext.refl _).alloc _).trans E1) (fun W g0 g1 g2 g3 => by simp [results, Tryd.results14, go_sem, g0, g1, g2, g3]) (fun W h => ⟨by rw [H.out]; rfl, h⟩)
 · have H : Hid (mkNum n = .num n) := mkNum_is hc
   rw [hc] at c
   clear hc
   go_enter Tryd.func14, Tryd.ntmps14
   go_wp2_with fail
   refine (c _).mono ?_
   rintro r w1 ⟨rfl, rfl⟩
   go_wp2_with fail
   simp [bodyPost, results, Tryd.results14, go_sem]
   exact ⟨by rw [H.out]; rfl, (Ext.refl _).alloc _⟩
theorem rnum_any (n : Int) (w : World) : Calls Tryd.prog 18 #[.int .i64 n] w fun r w' => r = .returned (mkNum n).dat ∧ Ext w w' := by
 have c := fun W => rcan_any n W
 have c2 := fun W => rerr_any 4 W
 rw [mkErr_is ⟨by decide, by decide⟩] at c2
 simp only [V.dat] at c2
 cases hc : canB n
 · have H : Hid (mkNum n = .err 4) := by show mkNum n = _; unfold mkNum; rw [hc]; rfl
   rw [hc] at c
   clear hc
   go_enter Tryd.func18, Tryd.ntmps18
   go_wp2_with fail
   refine (c _).mono ?_
   rintro r w1 ⟨rfl, rfl⟩
   go_wp2_with fail
   refine (c2 _).mono ?_
   rintro r w1 ⟨rfl, E1⟩
   obtain ⟨z, ⟨k0, k1, k2, k3⟩, f0, f1, f2, f3⟩ := keep4 E1
   go_wp2_with fail
   exact fin4 k0 k1 k2 k3 rfl (Nat.le_refl _) (((Ext.refl _).alloc _).trans E1) (fun W g0 g1 g2 g3 => by simp [results, Tryd.results18, go_sem, g0, g1, g2, g3]) (fun W h => ⟨by rw [H.out]; rfl, h⟩)
 · have H : Hid (mkNum n = .num n) := mkNum_is hc
   rw [hc] at c
   clear hc
   go_enter Tryd.func18, Tryd.ntmps18
   go_wp2_with fail
   refine (c _).mono ?_
   rintro r w1 ⟨rfl, rfl⟩
   go_wp2_with fail
   simp [bodyPost, results, Tryd.results18, go_sem]
   exact ⟨by rw [H.out]; rfl, (Ext.refl _).alloc _⟩
theorem vtext_any (s : ByteArray) (w : World) (hN : Nm w) : Calls Tryd.prog 15 #[.string s] w fun r w' => r = .returned (mkText s).dat ∧ Ext w w' := by
 have c2 := fun W h => err_any 2 W h
 rw [mkErr_is ⟨by decide, by decide⟩] at c2
 simp only [V.dat] at c2
 by_cases hs : s.size ≤ 300
 · have H : Hid (mkText s = .text s) := mkText_is hs
   have hd : decide (((s.size : Nat) : Int) > 300) = false := by simp; omega
   go_enter Tryd.func15, Tryd.ntmps15
   go_wp2_with fail
   simp [bodyPost, results, Tryd.results15, go_sem]
   exact ⟨by rw [H.out]; rfl, (Ext.refl _).alloc _⟩
 · have H : Hid (mkText s = .err 2) := by show mkText s = _; unfold mkText; rw [if_neg hs]
   have hd : decide (((s.size : Nat) : Int) > 300) = true := by simp; omega
   have hs' : 300 < s.size := by omega
   clear hs
   go_enter Tryd.func15, Tryd.ntmps15
   go_wp2_with fail
   refine (c2 _ (hN.ext ((Ext.refl _).alloc _))).mono ?_
   rintro r w1 ⟨rfl, E1⟩
   obtain ⟨z, ⟨k0, k1, k2, k3⟩, f0, f1, f2, f3⟩ := keep4 E1
   go_wp2_with fail
   exact fin4 k0 k1 k2 k3 rfl (Nat.le_refl _) (((Ext.refl _).alloc _).trans E1) (fun W g0 g1 g2 g3 => by simp [results, Tryd.results15, go_sem, g0, g1, g2, g3]) (fun W h => ⟨by rw [H.out]; rfl, h⟩)
theorem rtext_any (s : ByteArray) (w : World) : Calls Tryd.prog 19 #[.string s] w fun r w' => r = .returned (mkText s).dat ∧ Ext w w' := by
 have c2 := fun W => rerr_any 2 W
 rw [mkErr_is ⟨by decide, by decide⟩] at c2
 simp only [V.dat] at c2
 by_cases hs : s.size ≤ 300
 · have H : Hid (mkText s = .text s) := mkText_is hs
   have hd : decide (((s.size : Nat) : Int) > 300) = false := by simp; omega
   go_enter Tryd.func19, Tryd.ntmps19
   go_wp2_with fail
   simp [bodyPost, results, Tryd.results19, go_sem]
   exact ⟨by rw [H.out]; rfl, (Ext.refl _).alloc _⟩
 · have H : Hid (mkText s = .err 2) := by show mkText s = _; unfold mkText; rw [if_neg hs]
   have hd : decide (((s.size : Nat) : Int) > 300) = true := by simp; omega
   have hs' : 300 < s.size := by omega
   clear hs
   go_enter Tryd.func19, Tryd.ntmps19
   go_wp2_with fail
   refine (c2 _).mono ?_
   rintro r w1 ⟨rfl, E1⟩
   obtain ⟨z, ⟨k0, k1, k2, k3⟩, f0, f1, f2, f3⟩ := keep4 E1
   go_wp2_with fail
   exact fin4 k0 k1 k2 k3 rfl (Nat.le_refl _) (((Ext.refl _).alloc _).trans E1) (fun W g0 g1 g2 g3 => by simp [results, Tryd.results19, go_sem, g0, g1, g2, g3]) (fun W h => ⟨by rw [H.out]; rfl, h⟩)
theorem vbool_any (b : Bool) (w : World) : Calls Tryd.prog 13 #[.bool b] w fun r w' => r = .returned (V.tf b).dat ∧ Ext w w' := by
 cases b
 all_goals
   go_enter Tryd.func13, Tryd.ntmps13
   go_wp2_with fail
   simp [bodyPost, results, Tryd.results13, go_sem]
   exact ⟨rfl, (Ext.refl _).alloc _⟩
theorem rbool_any (b : Bool) (w : World) : Calls Tryd.prog 17 #[.bool b] w fun r w' => r = .returned (V.tf b).dat ∧ Ext w w' := by
 cases b
 all_goals
   go_enter Tryd.func17, Tryd.ntmps17
   go_wp2_with fail
   simp [bodyPost, results, Tryd.results17, go_sem]
   exact ⟨rfl, (Ext.refl _).alloc _⟩
/-- A value as a struct of four fields. -/
theorem dat4 (v : V) : ∃ (k n : Int) (s : ByteArray) (e : Int), v.dat = .agg #[.int .i64 k, .int .i64 n, .string s, .int .i64 e] := by
 cases v <;> exact ⟨_, _, _, _, rfl⟩

open Go.RowKit
set_option maxHeartbeats 1000000

theorem vnormal_any (k n : Int) (s : ByteArray) (e : Int) (w : World) (hN : Nm w) :
   Calls Tryd.prog 7 #[.agg #[.int .i64 k, .int .i64 n, .string s, .int .i64 e]] w fun r w' => r = .returned (nm k n s e).dat ∧ Ext w w' := by
 have c1 := fun W => vbool_any (n != 0) W
 have c2 := fun W h => vnum_any n W h
 have c3 := fun W h => vtext_any s W h
 have c4 := fun W h => err_any e W h
 by_cases h1 : k = 1
 · subst h1
   obtain ⟨q0, q1, q2, q3, hq⟩ := dat4 (V.tf (n != 0))
   rw [hq] at c1
   have H : Hid ((nm 1 n s e).dat = .agg #[.int .i64 q0, .int .i64 q1, .string q2, .int .i64 q3]) := hq
   clear hq
   go_enter Tryd.func7, Tryd.ntmps7
   go_wp2_with fail
   refine (c1 _).mono ?_
   rintro r w1 ⟨rfl, E1⟩
   obtain ⟨z, ⟨k0, k1, k2, k3⟩, f0, f1, f2, f3⟩ := blk_top (b := w.heap.size + 1) (by simp) (E1)
   go_wp2_with fail
   exact fin4 k0 k1 k2 k3 rfl (by simp) ((((Ext.refl _).alloc _).alloc _).trans E1) (fun W g0 g1 g2 g3 => by simp [results, Tryd.results7, go_sem, g0, g1, g2, g3]) (fun W h => ⟨by rw [H.out], h⟩)
 · skip
   by_cases h2 : k = 2
   · subst h2
     obtain ⟨q0, q1, q2, q3, hq⟩ := dat4 (mkNum n)
     rw [hq] at c2
     have H : Hid ((nm 2 n s e).dat = .agg #[.int .i64 q0, .int .i64 q1, .string q2, .int .i64 q3]) := hq
     clear hq h1
     go_enter Tryd.func7, Tryd.ntmps7
     go_wp2_with fail
     refine (c2 _ (hN.ext (((Ext.refl _).alloc _).alloc _))).mono ?_
     rintro r w1 ⟨rfl, E1⟩
     obtain ⟨z, ⟨k0, k1, k2, k3⟩, f0, f1, f2, f3⟩ := blk_top (b := w.heap.size + 1) (by simp) (E1)
     go_wp2_with fail
     exact fin4 k0 k1 k2 k3 rfl (by simp) ((((Ext.refl _).alloc _).alloc _).trans E1) (fun W g0 g1 g2 g3 => by simp [results, Tryd.results7, go_sem, g0, g1, g2, g3]) (fun W h => ⟨by rw [H.out], h⟩)
   · skip
     by_cases h3 : k = 3
     · subst h3
       obtain ⟨q0, q1, q2, q3, hq⟩ := dat4 (mkText s)
       rw [hq] at c3
       have H : Hid ((nm 3 n s e).dat = .agg #[.int .i64 q0, .int .i64 q1, .string q2, .int .i64 q3]) := hq
       clear hq h1 h2
       go_enter Tryd.func7, Tryd.ntmps7
       go_wp2_with fail
       refine (c3 _ (hN.ext (((Ext.refl _).alloc _).alloc _))).mono ?_
       rintro r w1 ⟨rfl, E1⟩
       obtain ⟨z, ⟨k0, k1, k2, k3⟩, f0, f1, f2, f3⟩ := blk_top (b := w.heap.size + 1) (by simp) (E1)
       go_wp2_with fail
       exact fin4 k0 k1 k2 k3 rfl (by simp) ((((Ext.refl _).alloc _).alloc _).trans E1) (fun W g0 g1 g2 g3 => by simp [results, Tryd.results7, go_sem, g0, g1, g2, g3]) (fun W h => ⟨by rw [H.out], h⟩)
     · skip
       by_cases h4 : k = 4
       · subst h4
         obtain ⟨q0, q1, q2, q3, hq⟩ := dat4 (mkErr e)
         rw [hq] at c4
         have H : Hid ((nm 4 n s e).dat = .agg #[.int .i64 q0, .int .i64 q1, .string q2, .int .i64 q3]) := hq
         clear hq h1 h2 h3
         go_enter Tryd.func7, Tryd.ntmps7
         go_wp2_with fail
         refine (c4 _ (hN.ext (((Ext.refl _).alloc _).alloc _))).mono ?_
         rintro r w1 ⟨rfl, E1⟩
         obtain ⟨z, ⟨k0, k1, k2, k3⟩, f0, f1, f2, f3⟩ := blk_top (b := w.heap.size + 1) (by simp) (E1)
         go_wp2_with fail
         exact fin4 k0 k1 k2 k3 rfl (by simp) ((((Ext.refl _).alloc _).alloc _).trans E1) (fun W g0 g1 g2 g3 => by simp [results, Tryd.results7, go_sem, g0, g1, g2, g3]) (fun W h => ⟨by rw [H.out], h⟩)
       · have H : Hid (nm k n s e = .blank) := by show nm k n s e = _; unfold nm; rw [if_neg h1, if_neg h2, if_neg h3, if_neg h4]
         clear c1 c2 c3 c4
         go_enter Tryd.func7, Tryd.ntmps7
         go_wp2_with fail
         simp [bodyPost, results, Tryd.results7, go_sem]
         exact ⟨by rw [H.out]; rfl, (((Ext.refl _).alloc _).alloc _)⟩
theorem rnormal_any (k n : Int) (s : ByteArray) (e : Int) (w : World) :
   Calls Tryd.prog 8 #[.agg #[.int .i64 k, .int .i64 n, .string s, .int .i64 e]] w fun r w' => r = .returned (nm k n s e).dat ∧ Ext w w' := by
 have c1 := fun W => rbool_any (n != 0) W
 have c2 := fun W => rnum_any n W
 have c3 := fun W => rtext_any s W
 have c4 := fun W => rerr_any e W
 by_cases h1 : k = 1
 · subst h1
   obtain ⟨q0, q1, q2, q3, hq⟩ := dat4 (V.tf (n != 0))
   rw [hq] at c1
   have H : Hid ((nm 1 n s e).dat = .agg #[.int .i64 q0, .int .i64 q1, .string q2, .int .i64 q3]) := hq
   clear hq
   go_enter Tryd.func8, Tryd.ntmps8
   go_wp2_with fail
   refine (c1 _).mono ?_
   rintro r w1 ⟨rfl, E1⟩
   obtain ⟨z, ⟨k0, k1, k2, k3⟩, f0, f1, f2, f3⟩ := blk_top (b := w.heap.size + 1) (by simp) (E1)
   go_wp2_with fail
   exact fin4 k0 k1 k2 k3 rfl (by simp) ((((Ext.refl _).alloc _).alloc _).trans E1) (fun W g0 g1 g2 g3 => by simp [results, Tryd.results8, go_sem, g0, g1, g2, g3]) (fun W h => ⟨by rw [H.out], h⟩)
 · skip
   by_cases h2 : k = 2
   · subst h2
     obtain ⟨q0, q1, q2, q3, hq⟩ := dat4 (mkNum n)
     rw [hq] at c2
     have H : Hid ((nm 2 n s e).dat = .agg #[.int .i64 q0, .int .i64 q1, .string q2, .int .i64 q3]) := hq
     clear hq h1
     go_enter Tryd.func8, Tryd.ntmps8
     go_wp2_with fail
     refine (c2 _).mono ?_
     rintro r w1 ⟨rfl, E1⟩
     obtain ⟨z, ⟨k0, k1, k2, k3⟩, f0, f1, f2, f3⟩ := blk_top (b := w.heap.size + 1) (by simp) (E1)
     go_wp2_with fail
     exact fin4 k0 k1 k2 k3 rfl (by simp) ((((Ext.refl _).alloc _).alloc _).trans E1) (fun W g0 g1 g2 g3 => by simp [results, Tryd.results8, go_sem, g0, g1, g2, g3]) (fun W h => ⟨by rw [H.out], h⟩)
   · skip
     by_cases h3 : k = 3
     · subst h3
       obtain ⟨q0, q1, q2, q3, hq⟩ := dat4 (mkText s)
       rw [hq] at c3
       have H : Hid ((nm 3 n s e).dat = .agg #[.int .i64 q0, .int .i64 q1, .string q2, .int .i64 q3]) := hq
       clear hq h1 h2
       go_enter Tryd.func8, Tryd.ntmps8
       go_wp2_with fail
       refine (c3 _).mono ?_
       rintro r w1 ⟨rfl, E1⟩
       obtain ⟨z, ⟨k0, k1, k2, k3⟩, f0, f1, f2, f3⟩ := blk_top (b := w.heap.size + 1) (by simp) (E1)
       go_wp2_with fail
       exact fin4 k0 k1 k2 k3 rfl (by simp) ((((Ext.refl _).alloc _).alloc _).trans E1) (fun W g0 g1 g2 g3 => by simp [results, Tryd.results8, go_sem, g0, g1, g2, g3]) (fun W h => ⟨by rw [H.out], h⟩)
     · skip
       by_cases h4 : k = 4
       · subst h4
         obtain ⟨q0, q1, q2, q3, hq⟩ := dat4 (mkErr e)
         rw [hq] at c4
         have H : Hid ((nm 4 n s e).dat = .agg #[.int .i64 q0, .int .i64 q1, .string q2, .int .i64 q3]) := hq
         clear hq h1 h2 h3
         go_enter Tryd.func8, Tryd.ntmps8
         go_wp2_with fail
         refine (c4 _).mono ?_
         rintro r w1 ⟨rfl, E1⟩
         obtain ⟨z, ⟨k0, k1, k2, k3⟩, f0, f1, f2, f3⟩ := blk_top (b := w.heap.size + 1) (by simp) (E1)
         go_wp2_with fail
         exact fin4 k0 k1 k2 k3 rfl (by simp) ((((Ext.refl _).alloc _).alloc _).trans E1) (fun W g0 g1 g2 g3 => by simp [results, Tryd.results8, go_sem, g0, g1, g2, g3]) (fun W h => ⟨by rw [H.out], h⟩)
       · have H : Hid (nm k n s e = .blank) := by show nm k n s e = _; unfold nm; rw [if_neg h1, if_neg h2, if_neg h3, if_neg h4]
         clear c1 c2 c3 c4
         go_enter Tryd.func8, Tryd.ntmps8
         go_wp2_with fail
         simp [bodyPost, results, Tryd.results8, go_sem]
         exact ⟨by rw [H.out]; rfl, (((Ext.refl _).alloc _).alloc _)⟩

open Go.RowKit
set_option maxHeartbeats 1000000
/-! ### firstError, over two -/
/-- Block L holds two structs. -/
def Two (W : World) (L : Nat) (ak an : Int) (sa : ByteArray) (ae bk bn : Int) (sb : ByteArray) (be : Int) : Prop :=
 W.cell? ⟨L, 0, none⟩ = some (.int .i64 ak) ∧ W.cell? ⟨L, 1, none⟩ = some (.int .i64 an) ∧ W.cell? ⟨L, 2, none⟩ = some (.string sa) ∧ W.cell? ⟨L, 3, none⟩ = some (.int .i64 ae) ∧
 W.cell? ⟨L, 4, none⟩ = some (.int .i64 bk) ∧ W.cell? ⟨L, 5, none⟩ = some (.int .i64 bn) ∧ W.cell? ⟨L, 6, none⟩ = some (.string sb) ∧ W.cell? ⟨L, 7, none⟩ = some (.int .i64 be) ∧ L < W.heap.size
/-! ### The order's parts -/
def rk (k : Int) : Int := if k = 2 then 1 else if k = 3 then 2 else if k = 1 then 3 else 0
/-! ### A value's fields -/
def V.k : V → Int
 | .blank => 0
 | .tf _ => 1
 | .num _ => 2
 | .text _ => 3
 | .err _ => 4
def V.n : V → Int
 | .tf b => if b then 1 else 0
 | .num n => n
 | _ => 0
def V.s : V → ByteArray
 | .text s => s
 | _ => ⟨#[]⟩
def V.e : V → Int
 | .err e => e
 | _ => 0
theorem dat_eq (v : V) : v.dat = .agg #[.int .i64 v.k, .int .i64 v.n, .string v.s, .int .i64 v.e] := by cases v <;> rfl
end Go.Proofs.YtjhmbkdkjgjoaaaDoor
