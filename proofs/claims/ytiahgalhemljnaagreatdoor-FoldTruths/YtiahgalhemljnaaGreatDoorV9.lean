/-
 The contracts of package value's and the document's Normal, and of what reads a numeral.
 Contracts of the parts of package value: the first error, ranks, which is ahead.
 Functions of many values (package fold) as plain data: what is met, the sum, the least, the greatest, the mean, truths, texts joined. No program in sight.
 Package fold: arguments in memory; which moves of a world leave what; the values that are gone through.
-/
import Derived.Test.YtiahgalhemljnaaGreatDoorV8
import Derived.Test.YtiahgalhemljnaaGreatDoorV4
import Derived.Test.YtiahgalhemljnaaGreatDoorV7
import Derived.Deep.DeepCutAuto
import Derived.Deep.Light
import Derived.Deep.CutBlock
namespace Go.Proofs.YtiahgalhemljnaaGreatDoor
open Go.RowKit
set_option maxHeartbeats 1000000

theorem vnormal_any (k n : Int) (s : ByteArray) (e : Int) (w : World) (hN : Nm w) :
   Calls Tryz.prog 80 #[.agg #[.int .i64 k, .int .i64 n, .string s, .int .i64 e]] w fun r w' => r = .returned (nm k n s e).dat ∧ Ext w w' := by
 have c1 := fun W => vbool_any (n != 0) W
 have c2 := fun W h => vnum_any n W h
 have c3 := fun W h => vtext_any s W h
 have c4 := fun W h => err_any e W h
 by_cases h1 : k = 1
 · subst h1
   obtain ⟨q0, q1, q2, q3, hq⟩ := dat4 (V.tf (n != 0))
   rw [hq] at c1
   have H : Hid ((nm 1 n s e).dat = .agg #[.int .i64 q0, .int .i64 q1, .string q2, .int .i64 q3]) := hq
   clear hq
   go_enter Tryz.func80, Tryz.ntmps80
   go_wp2_with fail
   refine (c1 _).mono ?_
   rintro r w1 ⟨rfl, E1⟩
   obtain ⟨z, ⟨k0, k1, k2, k3⟩, f0, f1, f2, f3⟩ := blk_top (b := w.heap.size + 1) (by simp) (E1)
   go_wp2_with fail
   exact fin4 k0 k1 k2 k3 rfl (by simp) ((((Ext.refl _).alloc _).alloc _).trans E1) (fun W g0 g1 g2 g3 => by simp [results, Tryz.results80, go_sem, g0, g1, g2, g3]) (fun W h => ⟨by rw [H.out], h⟩)
 · skip
   by_cases h2 : k = 2
   · subst h2
     obtain ⟨q0, q1, q2, q3, hq⟩ := dat4 (mkNum n)
     rw [hq] at c2
     have H : Hid ((nm 2 n s e).dat = .agg #[.int .i64 q0, .int .i64 q1, .string q2, .int .i64 q3]) := hq
     clear hq h1
     go_enter Tryz.func80, Tryz.ntmps80
     go_wp2_with fail
     refine (c2 _ (hN.ext (((Ext.refl _).alloc _).alloc _))).mono ?_
     rintro r w1 ⟨rfl, E1⟩
     obtain ⟨z, ⟨k0, k1, k2, k3⟩, f0, f1, f2, f3⟩ := blk_top (b := w.heap.size + 1) (by simp) (E1)
     go_wp2_with fail
     exact fin4 k0 k1 k2 k3 rfl (by simp) ((((Ext.refl _).alloc _).alloc _).trans E1) (fun W g0 g1 g2 g3 => by simp [results, Tryz.results80, go_sem, g0, g1, g2, g3]) (fun W h => ⟨by rw [H.out], h⟩)
   · skip
     by_cases h3 : k = 3
     · subst h3
       obtain ⟨q0, q1, q2, q3, hq⟩ := dat4 (mkText s)
       rw [hq] at c3
       have H : Hid ((nm 3 n s e).dat = .agg #[.int .i64 q0, .int .i64 q1, .string q2, .int .i64 q3]) := hq
       clear hq h1 h2
       go_enter Tryz.func80, Tryz.ntmps80
       go_wp2_with fail
       refine (c3 _ (hN.ext (((Ext.refl _).alloc _).alloc _))).mono ?_
       rintro r w1 ⟨rfl, E1⟩
       obtain ⟨z, ⟨k0, k1, k2, k3⟩, f0, f1, f2, f3⟩ := blk_top (b := w.heap.size + 1) (by simp) (E1)
       go_wp2_with fail
       exact fin4 k0 k1 k2 k3 rfl (by simp) ((((Ext.refl _).alloc _).alloc _).trans E1) (fun W g0 g1 g2 g3 => by simp [results, Tryz.results80, go_sem, g0, g1, g2, g3]) (fun W h => ⟨by rw [H.out], h⟩)
     · skip
       by_cases h4 : k = 4
       · subst h4
         obtain ⟨q0, q1, q2, q3, hq⟩ := dat4 (mkErr e)
         rw [hq] at c4
         have H : Hid ((nm 4 n s e).dat = .agg #[.int .i64 q0, .int .i64 q1, .string q2, .int .i64 q3]) := hq
         clear hq h1 h2 h3
         go_enter Tryz.func80, Tryz.ntmps80
         go_wp2_with fail
         refine (c4 _ (hN.ext (((Ext.refl _).alloc _).alloc _))).mono ?_
         rintro r w1 ⟨rfl, E1⟩
         obtain ⟨z, ⟨k0, k1, k2, k3⟩, f0, f1, f2, f3⟩ := blk_top (b := w.heap.size + 1) (by simp) (E1)
         go_wp2_with fail
         exact fin4 k0 k1 k2 k3 rfl (by simp) ((((Ext.refl _).alloc _).alloc _).trans E1) (fun W g0 g1 g2 g3 => by simp [results, Tryz.results80, go_sem, g0, g1, g2, g3]) (fun W h => ⟨by rw [H.out], h⟩)
       · have H : Hid (nm k n s e = .blank) := by show nm k n s e = _; unfold nm; rw [if_neg h1, if_neg h2, if_neg h3, if_neg h4]
         clear c1 c2 c3 c4
         go_enter Tryz.func80, Tryz.ntmps80
         go_wp2_with fail
         simp [bodyPost, results, Tryz.results80, go_sem]
         exact ⟨by rw [H.out]; rfl, (((Ext.refl _).alloc _).alloc _)⟩
theorem rnormal_any (k n : Int) (s : ByteArray) (e : Int) (w : World) :
   Calls Tryz.prog 47 #[.agg #[.int .i64 k, .int .i64 n, .string s, .int .i64 e]] w fun r w' => r = .returned (nm k n s e).dat ∧ Ext w w' := by
 have c1 := fun W => rbool_any (n != 0) W
 have c2 := fun W => rnum_any n W
 have c3 := fun W => rtext_any s W
 have c4 := fun W => rerr_any e W
 by_cases h1 : k = 1
 · subst h1
   obtain ⟨q0, q1, q2, q3, hq⟩ := dat4 (V.tf (n != 0))
   rw [hq] at c1
   have H : Hid ((nm 1 n s e).dat = .agg #[.int .i64 q0, .int .i64 q1, .string q2, .int .i64 q3]) := hq
   clear hq
   go_enter Tryz.func47, Tryz.ntmps47
   go_wp2_with fail
   refine (c1 _).mono ?_
   rintro r w1 ⟨rfl, E1⟩
   obtain ⟨z, ⟨k0, k1, k2, k3⟩, f0, f1, f2, f3⟩ := blk_top (b := w.heap.size + 1) (by simp) (E1)
   go_wp2_with fail
   exact fin4 k0 k1 k2 k3 rfl (by simp) ((((Ext.refl _).alloc _).alloc _).trans E1) (fun W g0 g1 g2 g3 => by simp [results, Tryz.results47, go_sem, g0, g1, g2, g3]) (fun W h => ⟨by rw [H.out], h⟩)
 · skip
   by_cases h2 : k = 2
   · subst h2
     obtain ⟨q0, q1, q2, q3, hq⟩ := dat4 (mkNum n)
     rw [hq] at c2
     have H : Hid ((nm 2 n s e).dat = .agg #[.int .i64 q0, .int .i64 q1, .string q2, .int .i64 q3]) := hq
     clear hq h1
     go_enter Tryz.func47, Tryz.ntmps47
     go_wp2_with fail
     refine (c2 _).mono ?_
     rintro r w1 ⟨rfl, E1⟩
     obtain ⟨z, ⟨k0, k1, k2, k3⟩, f0, f1, f2, f3⟩ := blk_top (b := w.heap.size + 1) (by simp) (E1)
     go_wp2_with fail
     exact fin4 k0 k1 k2 k3 rfl (by simp) ((((Ext.refl _).alloc _).alloc _).trans E1) (fun W g0 g1 g2 g3 => by simp [results, Tryz.results47, go_sem, g0, g1, g2, g3]) (fun W h => ⟨by rw [H.out], h⟩)
   · skip
     by_cases h3 : k = 3
     · subst h3
       obtain ⟨q0, q1, q2, q3, hq⟩ := dat4 (mkText s)
       rw [hq] at c3
       have H : Hid ((nm 3 n s e).dat = .agg #[.int .i64 q0, .int .i64 q1, .string q2, .int .i64 q3]) := hq
       clear hq h1 h2
       go_enter Tryz.func47, Tryz.ntmps47
       go_wp2_with fail
       refine (c3 _).mono ?_
       rintro r w1 ⟨rfl, E1⟩
       obtain ⟨z, ⟨k0, k1, k2, k3⟩, f0, f1, f2, f3⟩ := blk_top (b := w.heap.size + 1) (by simp) (E1)
       go_wp2_with fail
       exact fin4 k0 k1 k2 k3 rfl (by simp) ((((Ext.refl _).alloc _).alloc _).trans E1) (fun W g0 g1 g2 g3 => by simp [results, Tryz.results47, go_sem, g0, g1, g2, g3]) (fun W h => ⟨by rw [H.out], h⟩)
     · skip
       by_cases h4 : k = 4
       · subst h4
         obtain ⟨q0, q1, q2, q3, hq⟩ := dat4 (mkErr e)
         rw [hq] at c4
         have H : Hid ((nm 4 n s e).dat = .agg #[.int .i64 q0, .int .i64 q1, .string q2, .int .i64 q3]) := hq
         clear hq h1 h2 h3
         go_enter Tryz.func47, Tryz.ntmps47
         go_wp2_with fail
         refine (c4 _).mono ?_
         rintro r w1 ⟨rfl, E1⟩
         obtain ⟨z, ⟨k0, k1, k2, k3⟩, f0, f1, f2, f3⟩ := blk_top (b := w.heap.size + 1) (by simp) (E1)
         go_wp2_with fail
         exact fin4 k0 k1 k2 k3 rfl (by simp) ((((Ext.refl _).alloc _).alloc _).trans E1) (fun W g0 g1 g2 g3 => by simp [results, Tryz.results47, go_sem, g0, g1, g2, g3]) (fun W h => ⟨by rw [H.out], h⟩)
       · have H : Hid (nm k n s e = .blank) := by show nm k n s e = _; unfold nm; rw [if_neg h1, if_neg h2, if_neg h3, if_neg h4]
         clear c1 c2 c3 c4
         go_enter Tryz.func47, Tryz.ntmps47
         go_wp2_with fail
         simp [bodyPost, results, Tryz.results47, go_sem]
         exact ⟨by rw [H.out]; rfl, (((Ext.refl _).alloc _).alloc _)⟩
def numR (s : ByteArray) : V := if rdK s.data.toList = 1 then .num (rdV s.data.toList) else if rdK s.data.toList = 2 then .err 4 else .blank
def numK (s : ByteArray) : Bool := rdK s.data.toList == 1 || rdK s.data.toList == 2
theorem numeral_any (s : ByteArray) (w : World) (hs : s.size ≤ maxLen) (hN : Nm w) :
   Calls Tryz.prog 94 #[.string s] w fun r w' => r = .returned (.tuple #[(numR s).dat, .bool (numK s)]) ∧ Ext w w' := by
 have c1 := fun W => parse_any s W hs
 have c2 := fun W h => vnum_any (rdV s.data.toList) W h
 have c3 := fun W h => err_any 4 W h
 rw [mkNum_is (rdV_can _).2] at c2
 rw [mkErr_is ⟨by decide, by decide⟩] at c3
 simp only [V.dat] at c2 c3
 rcases rdK_cases s.data.toList with h | h | h
 · have H : Hid (numR s = .blank ∧ numK s = false) := by show numR s = _ ∧ numK s = _; unfold numR numK; rw [h]; exact ⟨rfl, rfl⟩
   rw [h] at c1
   clear h hs
   generalize rdV s.data.toList = n at *
   go_enter Tryz.func94, Tryz.ntmps94
   go_wp2_with fail
   refine (c1 _).mono ?_
   rintro r w1 ⟨rfl, E1⟩
   obtain ⟨z, ⟨k0, k1, k2, k3⟩, f0, f1, f2, f3⟩ := blk_top (b := w.heap.size) (by simp) (E1)
   go_wp2_with fail
   exact fin4b false k0 k1 k2 k3 rfl (by simp) (((Ext.refl _).alloc _).trans E1) (fun W g0 g1 g2 g3 => by simp [results, Tryz.results94, go_sem, g0, g1, g2, g3]) (fun W h => ⟨by rw [H.out.1, H.out.2]; rfl, h⟩)
 · have H : Hid (numR s = .num (rdV s.data.toList) ∧ numK s = true) := by show numR s = _ ∧ numK s = _; unfold numR numK; rw [h]; exact ⟨rfl, rfl⟩
   rw [h] at c1
   clear h hs
   generalize rdV s.data.toList = n at *
   go_enter Tryz.func94, Tryz.ntmps94
   go_wp2_with fail
   refine (c1 _).mono ?_
   rintro r w1 ⟨rfl, E1⟩
   go_wp2_with fail
   refine (c2 _ (hN.ext (((Ext.refl _).alloc _).trans E1))).mono ?_
   rintro r w2 ⟨rfl, E2⟩
   obtain ⟨z, ⟨k0, k1, k2, k3⟩, f0, f1, f2, f3⟩ := blk_top (b := w.heap.size) (by simp) (E1.trans E2)
   go_wp2_with fail
   exact fin4b true k0 k1 k2 k3 rfl (by simp) (((Ext.refl _).alloc _).trans (E1.trans E2)) (fun W g0 g1 g2 g3 => by simp [results, Tryz.results94, go_sem, g0, g1, g2, g3]) (fun W h => ⟨by rw [H.out.1, H.out.2]; rfl, h⟩)
 · have H : Hid (numR s = .err 4 ∧ numK s = true) := by show numR s = _ ∧ numK s = _; unfold numR numK; rw [h]; exact ⟨rfl, rfl⟩
   rw [h] at c1
   clear h hs
   generalize rdV s.data.toList = n at *
   go_enter Tryz.func94, Tryz.ntmps94
   go_wp2_with fail
   refine (c1 _).mono ?_
   rintro r w1 ⟨rfl, E1⟩
   go_wp2_with fail
   refine (c3 _ (hN.ext (((Ext.refl _).alloc _).trans E1))).mono ?_
   rintro r w2 ⟨rfl, E2⟩
   obtain ⟨z, ⟨k0, k1, k2, k3⟩, f0, f1, f2, f3⟩ := blk_top (b := w.heap.size) (by simp) (E1.trans E2)
   go_wp2_with fail
   exact fin4b true k0 k1 k2 k3 rfl (by simp) (((Ext.refl _).alloc _).trans (E1.trans E2)) (fun W g0 g1 g2 g3 => by simp [results, Tryz.results94, go_sem, g0, g1, g2, g3]) (fun W h => ⟨by rw [H.out.1, H.out.2]; rfl, h⟩)
def redR (s : ByteArray) : V := if rdK s.data.toList = 2 then .err 4 else .num (rdV s.data.toList)
theorem rread_any (s : ByteArray) (w : World) (hs : s.size ≤ maxLen) :
   Calls Tryz.prog 73 #[.string s] w fun r w' => r = .returned (.tuple #[(redR s).dat, .bool (numK s)]) ∧ Ext w w' := by
 have c1 := fun W => rparse_any s W hs
 have c2 := fun W => rnum_any (rdV s.data.toList) W
 have c3 := fun W => rerr_any 4 W
 rw [mkNum_is (rdV_can _).2] at c2
 rw [mkErr_is ⟨by decide, by decide⟩] at c3
 simp only [V.dat] at c2 c3
 rcases rdK_cases s.data.toList with h | h | h
 · have H : Hid (redR s = .num (rdV s.data.toList) ∧ numK s = false) := by show redR s = _ ∧ numK s = _; unfold redR numK; rw [h]; exact ⟨rfl, rfl⟩
   rw [h] at c1
   clear h hs
   generalize rdV s.data.toList = n at *
   go_enter Tryz.func73, Tryz.ntmps73
   go_wp2_with fail
   refine (c1 _).mono ?_
   rintro r w1 ⟨rfl, E1⟩
   go_wp2_with fail
   refine (c2 _).mono ?_
   rintro r w2 ⟨rfl, E2⟩
   obtain ⟨z, ⟨k0, k1, k2, k3⟩, f0, f1, f2, f3⟩ := blk_top (b := w.heap.size) (by simp) (E1.trans E2)
   go_wp2_with fail
   exact fin4b false k0 k1 k2 k3 rfl (by simp) (((Ext.refl _).alloc _).trans (E1.trans E2)) (fun W g0 g1 g2 g3 => by simp [results, Tryz.results73, go_sem, g0, g1, g2, g3]) (fun W h => ⟨by rw [H.out.1, H.out.2]; rfl, h⟩)
 · have H : Hid (redR s = .num (rdV s.data.toList) ∧ numK s = true) := by show redR s = _ ∧ numK s = _; unfold redR numK; rw [h]; exact ⟨rfl, rfl⟩
   rw [h] at c1
   clear h hs
   generalize rdV s.data.toList = n at *
   go_enter Tryz.func73, Tryz.ntmps73
   go_wp2_with fail
   refine (c1 _).mono ?_
   rintro r w1 ⟨rfl, E1⟩
   go_wp2_with fail
   refine (c2 _).mono ?_
   rintro r w2 ⟨rfl, E2⟩
   obtain ⟨z, ⟨k0, k1, k2, k3⟩, f0, f1, f2, f3⟩ := blk_top (b := w.heap.size) (by simp) (E1.trans E2)
   go_wp2_with fail
   exact fin4b true k0 k1 k2 k3 rfl (by simp) (((Ext.refl _).alloc _).trans (E1.trans E2)) (fun W g0 g1 g2 g3 => by simp [results, Tryz.results73, go_sem, g0, g1, g2, g3]) (fun W h => ⟨by rw [H.out.1, H.out.2]; rfl, h⟩)
 · have H : Hid (redR s = .err 4 ∧ numK s = true) := by show redR s = _ ∧ numK s = _; unfold redR numK; rw [h]; exact ⟨rfl, rfl⟩
   rw [h] at c1
   clear h hs
   generalize rdV s.data.toList = n at *
   go_enter Tryz.func73, Tryz.ntmps73
   go_wp2_with fail
   refine (c1 _).mono ?_
   rintro r w1 ⟨rfl, E1⟩
   go_wp2_with fail
   refine (c3 _).mono ?_
   rintro r w2 ⟨rfl, E2⟩
   obtain ⟨z, ⟨k0, k1, k2, k3⟩, f0, f1, f2, f3⟩ := blk_top (b := w.heap.size) (by simp) (E1.trans E2)
   go_wp2_with fail
   exact fin4b true k0 k1 k2 k3 rfl (by simp) (((Ext.refl _).alloc _).trans (E1.trans E2)) (fun W g0 g1 g2 g3 => by simp [results, Tryz.results73, go_sem, g0, g1, g2, g3]) (fun W h => ⟨by rw [H.out.1, H.out.2]; rfl, h⟩)

open Go.RowKit
set_option maxHeartbeats 1000000
/-! ### firstError, over two -/
/-! ### The order's parts -/
/-! ### A value's fields -/
def V.k : V → Int
 | .blank => 0
 | .tf _ => 1
 | .num _ => 2
 | .text _ => 3
 | .err _ => 4
def V.n : V → Int
 | .tf b => if b then 1 else 0
 | .num n => n
 | _ => 0
def V.s : V → ByteArray
 | .text s => s
 | _ => ⟨#[]⟩
def V.e : V → Int
 | .err e => e
 | _ => 0
theorem dat_eq (v : V) : v.dat = .agg #[.int .i64 v.k, .int .i64 v.n, .string v.s, .int .i64 v.e] := by cases v <;> rfl

open Go.RowKit

/-- A value's four fields as they lie in memory. -/
structure Rw where
 k : Int
 n : Int
 s : ByteArray
 e : Int
def Rw.v (r : Rw) : V := nm r.k r.n r.s r.e
/-- An argument: an area or not, and its values. -/
structure Ag where
 area : Bool
 l : List Rw
/-- The value of an argument that is no area. -/
def one1 : List Rw → V
 | [] => .blank
 | r :: _ => r.v
/-- All values that are met, and whether they are an area's. -/
def seen1 (a : Ag) : List (V × Bool) := if a.area then a.l.map (fun r => (r.v, true)) else [(one1 a.l, false)]
def seen (l : List Ag) : List (V × Bool) := l.flatMap seen1
def numF (v : V) (area : Bool) : V := if area then (match v with | .tf _ => .blank | .text _ => .blank | u => u) else v.toNum
def truF (v : V) (area : Bool) : V := if area then (match v with | .blank => .blank | .text _ => .blank | u => u.toBool) else v.toBool
def texF (v : V) (_ : Bool) : V := v.toText
/-- What is shown on: neither a Blank nor an error. -/
def goes (v : V) : Bool := !(v.k == 0) && !(v.k == 4)
def got (f : V → Bool → V) : List (V × Bool) → List V
 | [] => []
 | p :: l => if goes (f p.1 p.2) then f p.1 p.2 :: got f l else got f l
/-- The first error, or a Blank. -/
def bad (f : V → Bool → V) : List (V × Bool) → V
 | [] => .blank
 | p :: l => if (f p.1 p.2).k = 4 then f p.1 p.2 else bad f l
def sumN : List V → Int
 | [] => 0
 | v :: l => v.n + sumN l
/-- The first number that is ahead of all behind it that are seen so far. -/
def bestF (p : Int → Int → Bool) (b : Int) : List V → Int
 | [] => b
 | v :: l => bestF p (if p v.n b then v.n else b) l
def bestN (p : Int → Int → Bool) : List V → Int
 | [] => 0
 | v :: l => bestF p v.n l
def truN : List V → Nat
 | [] => 0
 | v :: l => (if v.n = 0 then 0 else 1) + truN l
def catF (a : List UInt8) : List V → List UInt8
 | [] => a
 | v :: l => catF (if a.length ≤ 300 then a ++ v.s.data.toList else a) l
def allC : List V → List UInt8
 | [] => []
 | v :: l => v.s.data.toList ++ allC l
def orBad (b v : V) : V := if b.k = 4 then b else v
def fSum (l : List Ag) : V := orBad (bad numF (seen l)) (toldR (toldB (sumN (got numF (seen l)))) (toldV (sumN (got numF (seen l)))))
def fTruth (b : Bool) (l : List Ag) : V := orBad (bad truF (seen l)) (if (got truF (seen l)).length = 0 then .err 2 else .tf b)
def fAnd (l : List Ag) : V := fTruth (decide (truN (got truF (seen l)) = (got truF (seen l)).length)) l
def fOr (l : List Ag) : V := fTruth (decide (0 < truN (got truF (seen l)))) l
def fCat (l : List Ag) : V := orBad (bad texF (seen l)) (mkText (bs (allC (got texF (seen l)))))

/-! ### One more at the end -/
theorem got_app (f : V → Bool → V) (a b : List (V × Bool)) : got f (a ++ b) = got f a ++ got f b := by
 induction a with
 | nil => rfl
 | cons p a ih =>
   show (if goes (f p.1 p.2) then f p.1 p.2 :: got f (a ++ b) else got f (a ++ b)) = (if goes (f p.1 p.2) then f p.1 p.2 :: got f a else got f a) ++ got f b
   split
   · rw [ih]; rfl
   · exact ih
theorem bad_app (f : V → Bool → V) (a b : List (V × Bool)) : bad f (a ++ b) = if (bad f a).k = 4 then bad f a else bad f b := by
 induction a with
 | nil => rfl
 | cons p a ih =>
   show (if (f p.1 p.2).k = 4 then f p.1 p.2 else bad f (a ++ b)) = if (if (f p.1 p.2).k = 4 then f p.1 p.2 else bad f a).k = 4 then (if (f p.1 p.2).k = 4 then f p.1 p.2 else bad f a) else bad f b
   by_cases h : (f p.1 p.2).k = 4
   · simp only [h, if_true]
   · simp only [h, if_false]; exact ih
theorem bad_kind (f : V → Bool → V) (l : List (V × Bool)) : bad f l = .blank ∨ (bad f l).k = 4 := by
 induction l with
 | nil => exact .inl rfl
 | cons p l ih =>
   by_cases h : (f p.1 p.2).k = 4
   · exact .inr (by simp only [bad, h, if_true])
   · simp only [bad, h, if_false]; exact ih
theorem got_len (f : V → Bool → V) (l : List (V × Bool)) : (got f l).length ≤ l.length := by
 induction l with
 | nil => exact Nat.le_refl _
 | cons p l ih =>
   unfold got
   split
   · simp; exact ih
   · simp; omega
theorem sumN_app (a b : List V) : sumN (a ++ b) = sumN a + sumN b := by
 induction a with
 | nil => simp [sumN]
 | cons v a ih => simp only [List.cons_append, sumN, ih]; omega
theorem truN_app (a b : List V) : truN (a ++ b) = truN a + truN b := by
 induction a with
 | nil => simp [truN]
 | cons v a ih => simp only [List.cons_append, truN, ih]; omega
theorem truN_le (a : List V) : truN a ≤ a.length := by
 induction a with
 | nil => exact Nat.le_refl _
 | cons v a ih => simp only [truN, List.length_cons]; split <;> omega
theorem catF_app (a : List UInt8) (l : List V) (v : V) : catF a (l ++ [v]) = if (catF a l).length ≤ 300 then catF a l ++ v.s.data.toList else catF a l := by
 induction l generalizing a with
 | nil => rfl
 | cons u l ih => exact ih _
theorem allC_app (a b : List V) : allC (a ++ b) = allC a ++ allC b := by
 induction a with
 | nil => rfl
 | cons v a ih => simp only [List.cons_append, allC, ih, List.append_assoc]
theorem catF_long (a : List UInt8) (l : List V) (h : 300 < a.length) : catF a l = a := by
 induction l with
 | nil => rfl
 | cons v l ih => show catF (if a.length ≤ 300 then _ else a) l = a; rw [if_neg (by omega)]; exact ih
theorem catF_all (a : List UInt8) (l : List V) : catF a l = a ++ allC l ∨ (300 < (catF a l).length ∧ 300 < (a ++ allC l).length) := by
 induction l generalizing a with
 | nil => exact .inl (by simp [catF, allC])
 | cons v l ih =>
   by_cases h : a.length ≤ 300
   · have e : catF a (v :: l) = catF (a ++ v.s.data.toList) l := by show catF (if a.length ≤ 300 then _ else a) l = _; rw [if_pos h]
     rw [e]
     have := ih (a ++ v.s.data.toList)
     simpa only [allC, List.append_assoc] using this
   · refine .inr ⟨?_, ?_⟩
     · rw [catF_long a _ (by omega)]; omega
     · rw [List.length_append]; omega
theorem bs_len (l : List UInt8) : (bs l).size = l.length := by show l.toArray.size = _; simp
theorem cat_text (l : List V) : mkText (bs (catF [] l)) = mkText (bs (allC l)) := by
 rcases catF_all [] l with h | ⟨h1, h2⟩
 · rw [h]; rfl
 · unfold mkText
   rw [bs_len, bs_len, if_neg (by omega), if_neg (by simpa using h2)]

/-! ### What comes of the values -/
theorem numF_ok (v : V) (a : Bool) (h : v.ok) : (numF v a).k = 0 ∨ (∃ e, numF v a = .err e ∧ 1 ≤ e ∧ e ≤ 5) ∨ ∃ n, numF v a = .num n ∧ I64 n ∧ canB n = true := by
 cases a with
 | false =>
   rcases toNum_cases v h with ⟨n, hn, h2⟩ | ⟨e, he, h2⟩
   · exact .inr (.inr ⟨n, hn, h2⟩)
   · exact .inr (.inl ⟨e, he, h2⟩)
 | true =>
   cases v with
   | blank => exact .inl rfl
   | tf b => exact .inl rfl
   | num n => exact .inr (.inr ⟨n, rfl, h⟩)
   | text s => exact .inl rfl
   | err e => exact .inr (.inl ⟨e, rfl, h⟩)
/-- Numbers. -/
def AllN (l : List V) : Prop := ∀ v ∈ l, ∃ n, v = .num n ∧ I64 n ∧ canB n = true
def OkS (l : List (V × Bool)) : Prop := ∀ p ∈ l, p.1.ok
theorem got_nums (l : List (V × Bool)) (h : OkS l) : AllN (got numF l) := by
 induction l with
 | nil => intro v hv; exact absurd hv (by simp [got])
 | cons p l ih =>
   have ih := ih (fun q hq => h q (by simp [hq]))
   unfold got
   split
   · rename_i g
     intro v hv
     rcases List.mem_cons.1 hv with rfl | hv
     · rcases numF_ok p.1 p.2 (h p (by simp)) with k | ⟨e, k, _⟩ | k
       · simp [goes, k] at g
       · simp [goes, k, V.k] at g
       · exact k
     · exact ih v hv
   · exact ih
def AgI (l : List Ag) : Prop := ∀ a ∈ l, ∀ r ∈ a.l, I64 r.n
theorem seen_ok (l : List Ag) (h : AgI l) : OkS (seen l) := by
 intro p hp
 obtain ⟨a, ha, hp⟩ := List.mem_flatMap.1 hp
 unfold seen1 at hp
 split at hp
 · obtain ⟨r, hr, rfl⟩ := List.mem_map.1 hp
   exact nm_ok _ _ _ _ (h a ha r hr)
 · simp at hp
   subst hp
   have := h a ha
   cases hl : a.l with
   | nil => trivial
   | cons r t => exact nm_ok _ _ _ _ (this r (by rw [hl]; simp))

/-! ### The order does not matter -/
/-! ### The mean is between -/
theorem sum_le {l : List V} {c : Int} (h : ∀ v ∈ l, v.n ≤ c) : sumN l ≤ l.length * c := by
 induction l with
 | nil => simp [sumN]
 | cons v l ih =>
   have h1 := h v (by simp)
   have h2 := ih (fun u hu => h u (by simp [hu]))
   simp only [sumN, List.length_cons]
   have e : ((l.length + 1 : Nat) : Int) * c = l.length * c + c := by rw [Int.natCast_add, Int.add_mul]; simp
   rw [e]; omega
theorem le_sum {l : List V} {c : Int} (h : ∀ v ∈ l, c ≤ v.n) : l.length * c ≤ sumN l := by
 induction l with
 | nil => simp [sumN]
 | cons v l ih =>
   have h1 := h v (by simp)
   have h2 := ih (fun u hu => h u (by simp [hu]))
   simp only [sumN, List.length_cons]
   have e : ((l.length + 1 : Nat) : Int) * c = l.length * c + c := by rw [Int.natCast_add, Int.add_mul]; simp
   rw [e]; omega

open Go.RowKit
set_option maxHeartbeats 1000000

/-- The slice v holds the values l, in a block below B. -/
def RdV (B : Nat) (W : World) (v : Value) (l : List Rw) : Prop :=
 ∃ p c, v = .slice p l.length c ∧ l.length ≤ c ∧ (l = [] ∨ ∃ b off, p = some ⟨b, off, none⟩ ∧ b < B ∧ b < W.heap.size ∧ ∀ i r, l[i]? = some r →
   W.cell? ⟨b, off + i * 4, none⟩ = some (.int .i64 r.k) ∧ W.cell? ⟨b, off + i * 4 + 1, none⟩ = some (.int .i64 r.n) ∧ W.cell? ⟨b, off + i * 4 + 2, none⟩ = some (.string r.s) ∧ W.cell? ⟨b, off + i * 4 + 3, none⟩ = some (.int .i64 r.e))
theorem RdV.low {B : Nat} {W W' : World} {v : Value} {l : List Rw} (h : RdV B W v l) (e : Below B W W') : RdV B W' v l := by
 obtain ⟨p, c, h1, h2, h3⟩ := h
 refine ⟨p, c, h1, h2, ?_⟩
 rcases h3 with h3 | ⟨b, off, h3, h4, h5, h6⟩
 · exact .inl h3
 · refine .inr ⟨b, off, h3, h4, Nat.lt_of_lt_of_le h5 e.size, fun i r hr => ?_⟩
   have k := fun o => Below.cell e (p := ⟨b, o, none⟩) h4
   obtain ⟨k0, k1, k2, k3⟩ := h6 i r hr
   exact ⟨(k _).trans k0, (k _).trans k1, (k _).trans k2, (k _).trans k3⟩
theorem RdV.up {B B' : Nat} {W : World} {v : Value} {l : List Rw} (h : RdV B W v l) (e : B ≤ B') : RdV B' W v l := by
 obtain ⟨p, c, h1, h2, h3⟩ := h
 refine ⟨p, c, h1, h2, ?_⟩
 rcases h3 with h3 | ⟨b, off, h3, h4, h5⟩
 · exact .inl h3
 · exact .inr ⟨b, off, h3, Nat.lt_of_lt_of_le h4 e, h5⟩
theorem RdV.at {B : Nat} {W : World} {p : Option Addr} {c n : Nat} {l : List Rw} (h : RdV B W (.slice p n c) l) {i : Nat} (hi : i < l.length) :
   ∃ b off r, p = some ⟨b, off, none⟩ ∧ l[i]? = some r ∧ b < B ∧ b < W.heap.size ∧
     W.cell? ⟨b, off + i * 4, none⟩ = some (.int .i64 r.k) ∧ W.cell? ⟨b, off + i * 4 + 1, none⟩ = some (.int .i64 r.n) ∧ W.cell? ⟨b, off + i * 4 + 2, none⟩ = some (.string r.s) ∧ W.cell? ⟨b, off + i * 4 + 3, none⟩ = some (.int .i64 r.e) := by
 obtain ⟨p', c', h1, h2, h3⟩ := h
 cases h1
 rcases h3 with h3 | ⟨b, off, h3, h4, h5, h6⟩
 · subst h3; simp at hi
 · exact ⟨b, off, _, h3, List.getElem?_eq_getElem hi, h4, h5, h6 i _ (List.getElem?_eq_getElem hi)⟩
theorem RdV.len {B : Nat} {W : World} {p : Option Addr} {c n : Nat} {l : List Rw} (h : RdV B W (.slice p n c) l) : n = l.length := by
 obtain ⟨p', c', h1, _⟩ := h
 cases h1; rfl
theorem RdV.form {B : Nat} {W : World} {v : Value} {l : List Rw} (h : RdV B W v l) : ∃ p n c, v = .slice p n c ∧ n = l.length ∧ n ≤ c := by
 obtain ⟨p, c, h1, h2, _⟩ := h
 exact ⟨p, _, c, h1, rfl, h2⟩
/-- The slice v holds the arguments l, in blocks below B. -/
def RdA (B : Nat) (W : World) (v : Value) (l : List Ag) : Prop :=
 ∃ p c, v = .slice p l.length c ∧ l.length ≤ c ∧ (l = [] ∨ ∃ b off, p = some ⟨b, off, none⟩ ∧ b < B ∧ b < W.heap.size ∧ ∀ i a, l[i]? = some a → ∃ (x y : Int) (lv : Value),
   W.cell? ⟨b, off + i * 4, none⟩ = some (.bool a.area) ∧ W.cell? ⟨b, off + i * 4 + 1, none⟩ = some (.int .i64 x) ∧ W.cell? ⟨b, off + i * 4 + 2, none⟩ = some (.int .i64 y) ∧ W.cell? ⟨b, off + i * 4 + 3, none⟩ = some lv ∧ RdV B W lv a.l)
theorem RdA.low {B : Nat} {W W' : World} {v : Value} {l : List Ag} (h : RdA B W v l) (e : Below B W W') : RdA B W' v l := by
 obtain ⟨p, c, h1, h2, h3⟩ := h
 refine ⟨p, c, h1, h2, ?_⟩
 rcases h3 with h3 | ⟨b, off, h3, h4, h5, h6⟩
 · exact .inl h3
 · refine .inr ⟨b, off, h3, h4, Nat.lt_of_lt_of_le h5 e.size, fun i r hr => ?_⟩
   have k := fun o => Below.cell e (p := ⟨b, o, none⟩) h4
   obtain ⟨x, y, lv, k0, k1, k2, k3, k4⟩ := h6 i r hr
   exact ⟨x, y, lv, (k _).trans k0, (k _).trans k1, (k _).trans k2, (k _).trans k3, k4.low e⟩
theorem RdA.up {B B' : Nat} {W : World} {v : Value} {l : List Ag} (h : RdA B W v l) (e : B ≤ B') : RdA B' W v l := by
 obtain ⟨p, c, h1, h2, h3⟩ := h
 refine ⟨p, c, h1, h2, ?_⟩
 rcases h3 with h3 | ⟨b, off, h3, h4, h5, h6⟩
 · exact .inl h3
 · refine .inr ⟨b, off, h3, Nat.lt_of_lt_of_le h4 e, h5, fun i r hr => ?_⟩
   obtain ⟨x, y, lv, k0, k1, k2, k3, k4⟩ := h6 i r hr
   exact ⟨x, y, lv, k0, k1, k2, k3, k4.up e⟩
theorem RdA.at {B : Nat} {W : World} {p : Option Addr} {c n : Nat} {l : List Ag} (h : RdA B W (.slice p n c) l) {i : Nat} (hi : i < l.length) :
   ∃ (b off : Nat) (a : Ag) (x y : Int) (lv : Value), p = some ⟨b, off, none⟩ ∧ l[i]? = some a ∧ b < B ∧ b < W.heap.size ∧
     (W.cell? ⟨b, off + i * 4, none⟩ = some (.bool a.area) ∧ W.cell? ⟨b, off + i * 4 + 1, none⟩ = some (.int .i64 x) ∧ W.cell? ⟨b, off + i * 4 + 2, none⟩ = some (.int .i64 y) ∧ W.cell? ⟨b, off + i * 4 + 3, none⟩ = some lv) ∧ RdV B W lv a.l := by
 obtain ⟨p', c', h1, h2, h3⟩ := h
 cases h1
 rcases h3 with h3 | ⟨b, off, h3, h4, h5, h6⟩
 · subst h3; simp at hi
 · obtain ⟨x, y, lv, k0, k1, k2, k3, k4⟩ := h6 i _ (List.getElem?_eq_getElem hi)
   exact ⟨b, off, _, x, y, lv, h3, List.getElem?_eq_getElem hi, h4, h5, ⟨k0, k1, k2, k3⟩, k4⟩
theorem RdA.form {B : Nat} {W : World} {v : Value} {l : List Ag} (h : RdA B W v l) : ∃ p n c, v = .slice p n c ∧ n = l.length ∧ n ≤ c := by
 obtain ⟨p, c, h1, h2, _⟩ := h
 exact ⟨p, _, c, h1, rfl, h2⟩

/-- Block k is a row of bytes. -/
def RowB (W : World) (k : Nat) : Prop := ∃ c fz, W.heap[k]? = some (.cells c 5 fz)
theorem RowB.lt {W : World} {k : Nat} (h : RowB W k) : k < W.heap.size := by
 obtain ⟨c, fz, h⟩ := h
 exact (Array.getElem?_eq_some_iff.1 h).1
/-- Blocks below hi, and rows of bytes, have not turned. -/
def Env (hi : Nat) (w w' : World) : Prop := Below hi w w' ∧ ∀ k, RowB w k → w'.heap[k]? = w.heap[k]?
/-- Blocks below lo, and those from hi on that are no rows of bytes, have not turned. -/
def Mid (lo hi : Nat) (w w' : World) : Prop := Below lo w w' ∧ ∀ k, hi ≤ k → k < w.heap.size → ¬ RowB w k → w'.heap[k]? = w.heap[k]?
theorem Ext.env {w w' : World} (h : Ext w w') {hi : Nat} (hh : hi ≤ w.heap.size) : Env hi w w' := ⟨Below.mono h hh, fun k hk => h.block k hk.lt⟩
theorem Ext.mid {w w' : World} (h : Ext w w') {lo : Nat} (hh : lo ≤ w.heap.size) (hi : Nat) : Mid lo hi w w' := ⟨Below.mono h hh, fun k _ hk _ => h.block k hk⟩
theorem RowB.same {w w' : World} {k : Nat} (h : w'.heap[k]? = w.heap[k]?) : RowB w' k ↔ RowB w k := by unfold RowB; rw [h]
theorem Env.trans {hi : Nat} {a b c : World} (h : Env hi a b) (k : Env hi b c) : Env hi a c :=
 ⟨h.1.trans k.1, fun n hn => (k.2 n ((RowB.same (h.2 n hn)).2 hn)).trans (h.2 n hn)⟩
theorem Mid.trans {lo hi : Nat} {a b c : World} (h : Mid lo hi a b) (k : Mid lo hi b c) : Mid lo hi a c :=
 ⟨h.1.trans k.1, fun n h1 h2 h3 => (k.2 n h1 (Nat.lt_of_lt_of_le h2 h.1.size) (fun r => h3 ((RowB.same (h.2 n h1 h2 h3)).1 r))).trans (h.2 n h1 h2 h3)⟩
theorem Env.down {hi hi' : Nat} {a b : World} (h : Env hi' a b) (k : hi ≤ hi') : Env hi a b := ⟨h.1.mono k, h.2⟩
theorem Mid.wide {lo hi hi' : Nat} {a b : World} (h : Mid lo hi a b) (k : hi ≤ hi') : Mid lo hi' a b := ⟨h.1, fun n h1 h2 h3 => h.2 n (Nat.le_trans k h1) h2 h3⟩
theorem Mid.ext {w0 a b : World} {hi : Nat} (h : Mid w0.heap.size hi a b) (e : Ext w0 a) : Ext w0 b := Below.trans e h.1
/-- A block of its own that is no row of bytes: its cells are kept. -/
def Own4 (W : World) (b : Nat) : Prop := b < W.heap.size ∧ ¬ RowB W b
theorem Own4.mid {lo hi : Nat} {w w' : World} {b : Nat} (h : Own4 w b) (m : Mid lo hi w w') (hb : hi ≤ b) : Own4 w' b ∧ ∀ o, w'.cell? ⟨b, o, none⟩ = w.cell? ⟨b, o, none⟩ ∧ w'.frozen? ⟨b, o, none⟩ = w.frozen? ⟨b, o, none⟩ := by
 have e := m.2 b hb h.1 h.2
 exact ⟨⟨Nat.lt_of_lt_of_le h.1 m.1.size, fun r => h.2 ((RowB.same e).1 r)⟩, fun o => ⟨World.cell?_of_block (w := w) e, World.frozen?_of_block (w := w) e⟩⟩
theorem Own4.new {w w' : World} {c : Array Value} {T : TypeId} (hT : T ≠ 5) (e : Ext (w.alloc (.cells c T)) w') : Own4 w' w.heap.size := by
 have hs : w.heap.size < (w.alloc (.cells c T)).heap.size := by simp
 have h := e.block w.heap.size hs
 refine ⟨Nat.lt_of_lt_of_le hs e.size, fun r => ?_⟩
 obtain ⟨c', fz, r⟩ := (RowB.same h).1 r
 have r' : (w.heap.push (.cells c T))[w.heap.size]? = some (.cells c' 5 fz) := r
 rw [Array.getElem?_push_size] at r'
 cases r'
 exact hT rfl
/-- A function value that is shown things, one behind the other: P l is what it has made of l. -/
def FnC (w0 : World) (hi : Nat) (v : Value) {α : Type} (enc : α → Array Value) (ok : α → Prop) (P : List α → World → Prop) : Prop :=
 ∃ K cs, v = .func (.func K) #[] cs ∧ (∀ args W, (callFunc K args).run Tryz.prog W = .ok (.enter K args) W) ∧
   (∀ l W W', P l W → hi ≤ W.heap.size → Env hi W W' → P l W') ∧
   ∀ l W x, P l W → hi ≤ W.heap.size → Ext w0 W → l.length ≤ 20000 → ok x → Calls Tryz.prog K (enc x ++ cs) W fun e w' => e = .returned (.tuple #[]) ∧ P (l ++ [x]) w' ∧ Mid w0.heap.size hi W w'
def encS (p : V × Bool) : Array Value := #[p.1.dat, .bool p.2]
def okS (p : V × Bool) : Prop := p.1.ok

set_option maxRecDepth 100000 in
theorem only_any (l : List Rw) (p : Option Addr) (n c B : Nat) (W : World) (hN : Nm W) (h : RdV B W (.slice p n c) l) :
   Calls Tryz.prog 79 #[.slice p n c] W fun e w' => e = .returned (one1 l).dat ∧ Ext W w' := by
 obtain rfl := h.len
 cases l with
 | nil =>
   go_enter Tryz.func79, Tryz.ntmps79
   go_wp2_with fail
   simp [bodyPost, results, Tryz.results79, go_sem]
   exact ⟨rfl, (Ext.refl _).alloc _⟩
 | cons r t =>
   obtain ⟨b, off, r', rfl, hr, hb, hbW, k0, k1, k2, k3⟩ := h.at (i := 0) (by simp)
   simp at hr
   subst hr
   have c0 := fun W h => vnormal_any r.k r.n r.s r.e W h
   have H : Hid (one1 (r :: t) = nm r.k r.n r.s r.e) := rfl
   obtain ⟨q0, q1, q2, q3, hq⟩ := dat4 (nm r.k r.n r.s r.e)
   rw [hq] at c0
   have HQ : Hid ((nm r.k r.n r.s r.e).dat = .agg #[.int .i64 q0, .int .i64 q1, .string q2, .int .i64 q3]) := hq
   clear hq
   obtain ⟨m, hm⟩ : ∃ m : Nat, (r :: t).length = m := ⟨_, rfl⟩
   rw [hm]
   have e1 : ((m : Int) == 0) = false := by simp; rw [← hm]; simp
   have e2 : (0 : Int) < (m : Int) := by rw [← hm]; simp only [List.length_cons]; omega
   clear hm h hb
   simp only [Nat.zero_mul, Nat.add_zero] at k0 k1 k2 k3
   go_enter Tryz.func79, Tryz.ntmps79
   go_wp2_with fail
   refine (c0 _ (hN.ext ((Ext.refl _).alloc _))).mono ?_
   rintro e w1 ⟨rfl, E1⟩
   obtain ⟨z, ⟨b0, b1, b2, b3⟩, f0, f1, f2, f3⟩ := blk_top (b := W.heap.size) (by simp) E1
   go_wp2_with fail
   exact fin4 b0 b1 b2 b3 rfl (by simp) (((Ext.refl _).alloc _).trans E1) (fun W g0 g1 g2 g3 => by simp [results, Tryz.results79, go_sem, g0, g1, g2, g3]) (fun W h => ⟨by rw [H.out, HQ.out], h⟩)
end Go.Proofs.YtiahgalhemljnaaGreatDoor
