/-
 The contracts of package value's and the document's Normal, and of what reads a numeral.
 Contracts of the parts of package value: the first error, ranks, which is ahead.
 Functions of many values (package fold) as plain data: what is met, the sum, the least, the greatest, the mean, truths, texts joined. No program in sight.
 Contracts of rests: Mod of the program and of the document's answers.
-/
import Derived.Test.YtalejeknigbhjaaGreatDoorY8
import Derived.Test.YtalejeknigbhjaaGreatDoorY4
import Derived.Test.YtalejeknigbhjaaGreatDoorY7
namespace Go.Proofs.YtalejeknigbhjaaGreatDoor
open Go.RowKit
set_option maxHeartbeats 1000000

theorem vnormal_any (k n : Int) (s : ByteArray) (e : Int) (w : World) (hN : Nm w) :
   Calls Tryz.prog 21 #[.agg #[.int .i64 k, .int .i64 n, .string s, .int .i64 e]] w fun r w' => r = .returned (nm k n s e).dat ∧ Ext w w' := by
 have c1 := fun W => vbool_any (n != 0) W
 have c2 := fun W h => vnum_any n W h
 have c3 := fun W h => vtext_any s W h
 have c4 := fun W h => err_any e W h
 by_cases h1 : k = 1
 · subst h1
   obtain ⟨q0, q1, q2, q3, hq⟩ := dat4 (V.tf (n != 0))
   rw [hq] at c1
   have H : Hid ((nm 1 n s e).dat = .agg #[.int .i64 q0, .int .i64 q1, .string q2, .int .i64 q3]) := hq
   clear hq
   go_enter Tryz.func21, Tryz.ntmps21
   go_wp2_with fail
   refine (c1 _).mono ?_
   rintro r w1 ⟨rfl, E1⟩
   obtain ⟨z, ⟨k0, k1, k2, k3⟩, f0, f1, f2, f3⟩ := blk_top (b := w.heap.size + 1) (by simp) (E1)
   go_wp2_with fail
   exact fin4 k0 k1 k2 k3 rfl (by simp) ((((Ext.refl _).alloc _).alloc _).trans E1) (fun W g0 g1 g2 g3 => by simp [results, Tryz.results21, go_sem, g0, g1, g2, g3]) (fun W h => ⟨by rw [H.out], h⟩)
 · skip
   by_cases h2 : k = 2
   · subst h2
     obtain ⟨q0, q1, q2, q3, hq⟩ := dat4 (mkNum n)
     rw [hq] at c2
     have H : Hid ((nm 2 n s e).dat = .agg #[.int .i64 q0, .int .i64 q1, .string q2, .int .i64 q3]) := hq
     clear hq h1
     go_enter Tryz.func21, Tryz.ntmps21
     go_wp2_with fail
     refine (c2 _ (hN.ext (((Ext.refl _).alloc _).alloc _))).mono ?_
     rintro r w1 ⟨rfl, E1⟩
     obtain ⟨z, ⟨k0, k1, k2, k3⟩, f0, f1, f2, f3⟩ := blk_top (b := w.heap.size + 1) (by simp) (E1)
     go_wp2_with fail
     exact fin4 k0 k1 k2 k3 rfl (by simp) ((((Ext.refl _).alloc _).alloc _).trans E1) (fun W g0 g1 g2 g3 => by simp [results, Tryz.results21, go_sem, g0, g1, g2, g3]) (fun W h => ⟨by rw [H.out], h⟩)
   · skip
     by_cases h3 : k = 3
     · subst h3
       obtain ⟨q0, q1, q2, q3, hq⟩ := dat4 (mkText s)
       rw [hq] at c3
       have H : Hid ((nm 3 n s e).dat = .agg #[.int .i64 q0, .int .i64 q1, .string q2, .int .i64 q3]) := hq
       clear hq h1 h2
       go_enter Tryz.func21, Tryz.ntmps21
       go_wp2_with fail
       refine (c3 _ (hN.ext (((Ext.refl _).alloc _).alloc _))).mono ?_
       rintro r w1 ⟨rfl, E1⟩
       obtain ⟨z, ⟨k0, k1, k2, k3⟩, f0, f1, f2, f3⟩ := blk_top (b := w.heap.size + 1) (by simp) (E1)
       go_wp2_with fail
       exact fin4 k0 k1 k2 k3 rfl (by simp) ((((Ext.refl _).alloc _).alloc _).trans E1) (fun W g0 g1 g2 g3 => by simp [results, Tryz.results21, go_sem, g0, g1, g2, g3]) (fun W h => ⟨by rw [H.out], h⟩)
     · skip
       by_cases h4 : k = 4
       · subst h4
         obtain ⟨q0, q1, q2, q3, hq⟩ := dat4 (mkErr e)
         rw [hq] at c4
         have H : Hid ((nm 4 n s e).dat = .agg #[.int .i64 q0, .int .i64 q1, .string q2, .int .i64 q3]) := hq
         clear hq h1 h2 h3
         go_enter Tryz.func21, Tryz.ntmps21
         go_wp2_with fail
         refine (c4 _ (hN.ext (((Ext.refl _).alloc _).alloc _))).mono ?_
         rintro r w1 ⟨rfl, E1⟩
         obtain ⟨z, ⟨k0, k1, k2, k3⟩, f0, f1, f2, f3⟩ := blk_top (b := w.heap.size + 1) (by simp) (E1)
         go_wp2_with fail
         exact fin4 k0 k1 k2 k3 rfl (by simp) ((((Ext.refl _).alloc _).alloc _).trans E1) (fun W g0 g1 g2 g3 => by simp [results, Tryz.results21, go_sem, g0, g1, g2, g3]) (fun W h => ⟨by rw [H.out], h⟩)
       · have H : Hid (nm k n s e = .blank) := by show nm k n s e = _; unfold nm; rw [if_neg h1, if_neg h2, if_neg h3, if_neg h4]
         clear c1 c2 c3 c4
         go_enter Tryz.func21, Tryz.ntmps21
         go_wp2_with fail
         simp [bodyPost, results, Tryz.results21, go_sem]
         exact ⟨by rw [H.out]; rfl, (((Ext.refl _).alloc _).alloc _)⟩
theorem rnormal_any (k n : Int) (s : ByteArray) (e : Int) (w : World) :
   Calls Tryz.prog 14 #[.agg #[.int .i64 k, .int .i64 n, .string s, .int .i64 e]] w fun r w' => r = .returned (nm k n s e).dat ∧ Ext w w' := by
 have c1 := fun W => rbool_any (n != 0) W
 have c2 := fun W => rnum_any n W
 have c3 := fun W => rtext_any s W
 have c4 := fun W => rerr_any e W
 by_cases h1 : k = 1
 · subst h1
   obtain ⟨q0, q1, q2, q3, hq⟩ := dat4 (V.tf (n != 0))
   rw [hq] at c1
   have H : Hid ((nm 1 n s e).dat = .agg #[.int .i64 q0, .int .i64 q1, .string q2, .int .i64 q3]) := hq
   clear hq
   go_enter Tryz.func14, Tryz.ntmps14
   go_wp2_with fail
   refine (c1 _).mono ?_
   rintro r w1 ⟨rfl, E1⟩
   obtain ⟨z, ⟨k0, k1, k2, k3⟩, f0, f1, f2, f3⟩ := blk_top (b := w.heap.size + 1) (by simp) (E1)
   go_wp2_with fail
   exact fin4 k0 k1 k2 k3 rfl (by simp) ((((Ext.refl _).alloc _).alloc _).trans E1) (fun W g0 g1 g2 g3 => by simp [results, Tryz.results14, go_sem, g0, g1, g2, g3]) (fun W h => ⟨by rw [H.out], h⟩)
 · skip
   by_cases h2 : k = 2
   · subst h2
     obtain ⟨q0, q1, q2, q3, hq⟩ := dat4 (mkNum n)
     rw [hq] at c2
     have H : Hid ((nm 2 n s e).dat = .agg #[.int .i64 q0, .int .i64 q1, .string q2, .int .i64 q3]) := hq
     clear hq h1
     go_enter Tryz.func14, Tryz.ntmps14
     go_wp2_with fail
     refine (c2 _).mono ?_
     rintro r w1 ⟨rfl, E1⟩
     obtain ⟨z, ⟨k0, k1, k2, k3⟩, f0, f1, f2, f3⟩ := blk_top (b := w.heap.size + 1) (by simp) (E1)
     go_wp2_with fail
     exact fin4 k0 k1 k2 k3 rfl (by simp) ((((Ext.refl _).alloc _).alloc _).trans E1) (fun W g0 g1 g2 g3 => by simp [results, Tryz.results14, go_sem, g0, g1, g2, g3]) (fun W h => ⟨by rw [H.out], h⟩)
   · skip
     by_cases h3 : k = 3
     · subst h3
       obtain ⟨q0, q1, q2, q3, hq⟩ := dat4 (mkText s)
       rw [hq] at c3
       have H : Hid ((nm 3 n s e).dat = .agg #[.int .i64 q0, .int .i64 q1, .string q2, .int .i64 q3]) := hq
       clear hq h1 h2
       go_enter Tryz.func14, Tryz.ntmps14
       go_wp2_with fail
       refine (c3 _).mono ?_
       rintro r w1 ⟨rfl, E1⟩
       obtain ⟨z, ⟨k0, k1, k2, k3⟩, f0, f1, f2, f3⟩ := blk_top (b := w.heap.size + 1) (by simp) (E1)
       go_wp2_with fail
       exact fin4 k0 k1 k2 k3 rfl (by simp) ((((Ext.refl _).alloc _).alloc _).trans E1) (fun W g0 g1 g2 g3 => by simp [results, Tryz.results14, go_sem, g0, g1, g2, g3]) (fun W h => ⟨by rw [H.out], h⟩)
     · skip
       by_cases h4 : k = 4
       · subst h4
         obtain ⟨q0, q1, q2, q3, hq⟩ := dat4 (mkErr e)
         rw [hq] at c4
         have H : Hid ((nm 4 n s e).dat = .agg #[.int .i64 q0, .int .i64 q1, .string q2, .int .i64 q3]) := hq
         clear hq h1 h2 h3
         go_enter Tryz.func14, Tryz.ntmps14
         go_wp2_with fail
         refine (c4 _).mono ?_
         rintro r w1 ⟨rfl, E1⟩
         obtain ⟨z, ⟨k0, k1, k2, k3⟩, f0, f1, f2, f3⟩ := blk_top (b := w.heap.size + 1) (by simp) (E1)
         go_wp2_with fail
         exact fin4 k0 k1 k2 k3 rfl (by simp) ((((Ext.refl _).alloc _).alloc _).trans E1) (fun W g0 g1 g2 g3 => by simp [results, Tryz.results14, go_sem, g0, g1, g2, g3]) (fun W h => ⟨by rw [H.out], h⟩)
       · have H : Hid (nm k n s e = .blank) := by show nm k n s e = _; unfold nm; rw [if_neg h1, if_neg h2, if_neg h3, if_neg h4]
         clear c1 c2 c3 c4
         go_enter Tryz.func14, Tryz.ntmps14
         go_wp2_with fail
         simp [bodyPost, results, Tryz.results14, go_sem]
         exact ⟨by rw [H.out]; rfl, (((Ext.refl _).alloc _).alloc _)⟩
def numR (s : ByteArray) : V := if rdK s.data.toList = 1 then .num (rdV s.data.toList) else if rdK s.data.toList = 2 then .err 4 else .blank
def numK (s : ByteArray) : Bool := rdK s.data.toList == 1 || rdK s.data.toList == 2
theorem numeral_any (s : ByteArray) (w : World) (hs : s.size ≤ maxLen) (hN : Nm w) :
   Calls Tryz.prog 140 #[.string s] w fun r w' => r = .returned (.tuple #[(numR s).dat, .bool (numK s)]) ∧ Ext w w' := by
 have c1 := fun W => parse_any s W hs
 have c2 := fun W h => vnum_any (rdV s.data.toList) W h
 have c3 := fun W h => err_any 4 W h
 rw [mkNum_is (rdV_can _).2] at c2
 rw [mkErr_is ⟨by decide, by decide⟩] at c3
 simp only [V.dat] at c2 c3
 rcases rdK_cases s.data.toList with h | h | h
 · have H : Hid (numR s = .blank ∧ numK s = false) := by show numR s = _ ∧ numK s = _; unfold numR numK; rw [h]; exact ⟨rfl, rfl⟩
   rw [h] at c1
   clear h hs
   generalize rdV s.data.toList = n at *
   go_enter Tryz.func140, Tryz.ntmps140
   go_wp2_with fail
   refine (c1 _).mono ?_
   rintro r w1 ⟨rfl, E1⟩
   obtain ⟨z, ⟨k0, k1, k2, k3⟩, f0, f1, f2, f3⟩ := blk_top (b := w.heap.size) (by simp) (E1)
   go_wp2_with fail
   exact fin4b false k0 k1 k2 k3 rfl (by simp) (((Ext.refl _).alloc _).trans E1) (fun W g0 g1 g2 g3 => by simp [results, Tryz.results140, go_sem, g0, g1, g2, g3]) (fun W h => ⟨by rw [H.out.1, H.out.2]; rfl, h⟩)
 · have H : Hid (numR s = .num (rdV s.data.toList) ∧ numK s = true) := by show numR s = _ ∧ numK s = _; unfold numR numK; rw [h]; exact ⟨rfl, rfl⟩
   rw [h] at c1
   clear h hs
   generalize rdV s.data.toList = n at *
   go_enter Tryz.func140, Tryz.ntmps140
   go_wp2_with fail
   refine (c1 _).mono ?_
   rintro r w1 ⟨rfl, E1⟩
   go_wp2_with fail
   refine (c2 _ (hN.ext (((Ext.refl _).alloc _).trans E1))).mono ?_
   rintro r w2 ⟨rfl, E2⟩
   obtain ⟨z, ⟨k0, k1, k2, k3⟩, f0, f1, f2, f3⟩ := blk_top (b := w.heap.size) (by simp) (E1.trans E2)
   go_wp2_with fail
   exact fin4b true k0 k1 k2 k3 rfl (by simp) (((Ext.refl _).alloc _).trans (E1.trans E2)) (fun W g0 g1 g2 g3 => by simp [results, Tryz.results140, go_sem, g0, g1, g2, g3]) (fun W h => ⟨by rw [H.out.1, H.out.2]; rfl, h⟩)
 · have H : Hid (numR s = .err 4 ∧ numK s = true) := by show numR s = _ ∧ numK s = _; unfold numR numK; rw [h]; exact ⟨rfl, rfl⟩
   rw [h] at c1
   clear h hs
   generalize rdV s.data.toList = n at *
   go_enter Tryz.func140, Tryz.ntmps140
   go_wp2_with fail
   refine (c1 _).mono ?_
   rintro r w1 ⟨rfl, E1⟩
   go_wp2_with fail
   refine (c3 _ (hN.ext (((Ext.refl _).alloc _).trans E1))).mono ?_
   rintro r w2 ⟨rfl, E2⟩
   obtain ⟨z, ⟨k0, k1, k2, k3⟩, f0, f1, f2, f3⟩ := blk_top (b := w.heap.size) (by simp) (E1.trans E2)
   go_wp2_with fail
   exact fin4b true k0 k1 k2 k3 rfl (by simp) (((Ext.refl _).alloc _).trans (E1.trans E2)) (fun W g0 g1 g2 g3 => by simp [results, Tryz.results140, go_sem, g0, g1, g2, g3]) (fun W h => ⟨by rw [H.out.1, H.out.2]; rfl, h⟩)
def redR (s : ByteArray) : V := if rdK s.data.toList = 2 then .err 4 else .num (rdV s.data.toList)
theorem rread_any (s : ByteArray) (w : World) (hs : s.size ≤ maxLen) :
   Calls Tryz.prog 50 #[.string s] w fun r w' => r = .returned (.tuple #[(redR s).dat, .bool (numK s)]) ∧ Ext w w' := by
 have c1 := fun W => rparse_any s W hs
 have c2 := fun W => rnum_any (rdV s.data.toList) W
 have c3 := fun W => rerr_any 4 W
 rw [mkNum_is (rdV_can _).2] at c2
 rw [mkErr_is ⟨by decide, by decide⟩] at c3
 simp only [V.dat] at c2 c3
 rcases rdK_cases s.data.toList with h | h | h
 · have H : Hid (redR s = .num (rdV s.data.toList) ∧ numK s = false) := by show redR s = _ ∧ numK s = _; unfold redR numK; rw [h]; exact ⟨rfl, rfl⟩
   rw [h] at c1
   clear h hs
   generalize rdV s.data.toList = n at *
   go_enter Tryz.func50, Tryz.ntmps50
   go_wp2_with fail
   refine (c1 _).mono ?_
   rintro r w1 ⟨rfl, E1⟩
   go_wp2_with fail
   refine (c2 _).mono ?_
   rintro r w2 ⟨rfl, E2⟩
   obtain ⟨z, ⟨k0, k1, k2, k3⟩, f0, f1, f2, f3⟩ := blk_top (b := w.heap.size) (by simp) (E1.trans E2)
   go_wp2_with fail
   exact fin4b false k0 k1 k2 k3 rfl (by simp) (((Ext.refl _).alloc _).trans (E1.trans E2)) (fun W g0 g1 g2 g3 => by simp [results, Tryz.results50, go_sem, g0, g1, g2, g3]) (fun W h => ⟨by rw [H.out.1, H.out.2]; rfl, h⟩)
 · have H : Hid (redR s = .num (rdV s.data.toList) ∧ numK s = true) := by show redR s = _ ∧ numK s = _; unfold redR numK; rw [h]; exact ⟨rfl, rfl⟩
   rw [h] at c1
   clear h hs
   generalize rdV s.data.toList = n at *
   go_enter Tryz.func50, Tryz.ntmps50
   go_wp2_with fail
   refine (c1 _).mono ?_
   rintro r w1 ⟨rfl, E1⟩
   go_wp2_with fail
   refine (c2 _).mono ?_
   rintro r w2 ⟨rfl, E2⟩
   obtain ⟨z, ⟨k0, k1, k2, k3⟩, f0, f1, f2, f3⟩ := blk_top (b := w.heap.size) (by simp) (E1.trans E2)
   go_wp2_with fail
   exact fin4b true k0 k1 k2 k3 rfl (by simp) (((Ext.refl _).alloc _).trans (E1.trans E2)) (fun W g0 g1 g2 g3 => by simp [results, Tryz.results50, go_sem, g0, g1, g2, g3]) (fun W h => ⟨by rw [H.out.1, H.out.2]; rfl, h⟩)
 · have H : Hid (redR s = .err 4 ∧ numK s = true) := by show redR s = _ ∧ numK s = _; unfold redR numK; rw [h]; exact ⟨rfl, rfl⟩
   rw [h] at c1
   clear h hs
   generalize rdV s.data.toList = n at *
   go_enter Tryz.func50, Tryz.ntmps50
   go_wp2_with fail
   refine (c1 _).mono ?_
   rintro r w1 ⟨rfl, E1⟩
   go_wp2_with fail
   refine (c3 _).mono ?_
   rintro r w2 ⟨rfl, E2⟩
   obtain ⟨z, ⟨k0, k1, k2, k3⟩, f0, f1, f2, f3⟩ := blk_top (b := w.heap.size) (by simp) (E1.trans E2)
   go_wp2_with fail
   exact fin4b true k0 k1 k2 k3 rfl (by simp) (((Ext.refl _).alloc _).trans (E1.trans E2)) (fun W g0 g1 g2 g3 => by simp [results, Tryz.results50, go_sem, g0, g1, g2, g3]) (fun W h => ⟨by rw [H.out.1, H.out.2]; rfl, h⟩)

open Go.RowKit
set_option maxHeartbeats 1000000
/-! ### firstError, over two -/
/-! ### The order's parts -/
/-! ### A value's fields -/
def V.k : V → Int
 | .blank => 0
 | .tf _ => 1
 | .num _ => 2
 | .text _ => 3
 | .err _ => 4
def V.n : V → Int
 | .tf b => if b then 1 else 0
 | .num n => n
 | _ => 0
def V.s : V → ByteArray
 | .text s => s
 | _ => ⟨#[]⟩
def V.e : V → Int
 | .err e => e
 | _ => 0
theorem dat_eq (v : V) : v.dat = .agg #[.int .i64 v.k, .int .i64 v.n, .string v.s, .int .i64 v.e] := by cases v <;> rfl

open Go.RowKit

/-- A value's four fields as they lie in memory. -/
structure Rw where
 k : Int
 n : Int
 s : ByteArray
 e : Int
def Rw.v (r : Rw) : V := nm r.k r.n r.s r.e
/-- An argument: an area or not, and its values. -/
structure Ag where
 area : Bool
 l : List Rw
/-- The value of an argument that is no area. -/
def one1 : List Rw → V
 | [] => .blank
 | r :: _ => r.v
/-- All values that are met, and whether they are an area's. -/
def seen1 (a : Ag) : List (V × Bool) := if a.area then a.l.map (fun r => (r.v, true)) else [(one1 a.l, false)]
def seen (l : List Ag) : List (V × Bool) := l.flatMap seen1
def numF (v : V) (area : Bool) : V := if area then (match v with | .tf _ => .blank | .text _ => .blank | u => u) else v.toNum
def truF (v : V) (area : Bool) : V := if area then (match v with | .blank => .blank | .text _ => .blank | u => u.toBool) else v.toBool
def texF (v : V) (_ : Bool) : V := v.toText
/-- What is shown on: neither a Blank nor an error. -/
def goes (v : V) : Bool := !(v.k == 0) && !(v.k == 4)
def got (f : V → Bool → V) : List (V × Bool) → List V
 | [] => []
 | p :: l => if goes (f p.1 p.2) then f p.1 p.2 :: got f l else got f l
/-- The first error, or a Blank. -/
def bad (f : V → Bool → V) : List (V × Bool) → V
 | [] => .blank
 | p :: l => if (f p.1 p.2).k = 4 then f p.1 p.2 else bad f l
def sumN : List V → Int
 | [] => 0
 | v :: l => v.n + sumN l
/-- The first number that is ahead of all behind it that are seen so far. -/
def bestF (p : Int → Int → Bool) (b : Int) : List V → Int
 | [] => b
 | v :: l => bestF p (if p v.n b then v.n else b) l
def bestN (p : Int → Int → Bool) : List V → Int
 | [] => 0
 | v :: l => bestF p v.n l
def ltB (a b : Int) : Bool := decide (a < b)
def gtB (a b : Int) : Bool := decide (a > b)
def truN : List V → Nat
 | [] => 0
 | v :: l => (if v.n = 0 then 0 else 1) + truN l
def catF (a : List UInt8) : List V → List UInt8
 | [] => a
 | v :: l => catF (if a.length ≤ 300 then a ++ v.s.data.toList else a) l
def allC : List V → List UInt8
 | [] => []
 | v :: l => v.s.data.toList ++ allC l
/-- A sum by n, rounded. -/
def meanQ (x n : Int) : Int := (2 * absI x + n) / (2 * n)
def meanB (x n : Int) : Bool := decide (1 ≤ n) && decide (meanQ x n ≤ 9223372036854775807)
def meanV (x n : Int) : Int := if meanB x n then (if x < 0 then -meanQ x n else meanQ x n) else 0
def orBad (b v : V) : V := if b.k = 4 then b else v
def fSum (l : List Ag) : V := orBad (bad numF (seen l)) (toldR (toldB (sumN (got numF (seen l)))) (toldV (sumN (got numF (seen l)))))
def fCount (l : List Ag) : V := mkNum (((got numF (seen l)).length : Int) * 10000)
def fBest (p : Int → Int → Bool) (l : List Ag) : V := orBad (bad numF (seen l)) (mkNum (bestN p (got numF (seen l))))
def fMean (l : List Ag) : V := orBad (bad numF (seen l)) (if (got numF (seen l)).length = 0 then .err 3 else toldR (meanB (sumN (got numF (seen l))) (got numF (seen l)).length) (meanV (sumN (got numF (seen l))) (got numF (seen l)).length))
def fTruth (b : Bool) (l : List Ag) : V := orBad (bad truF (seen l)) (if (got truF (seen l)).length = 0 then .err 2 else .tf b)
def fAnd (l : List Ag) : V := fTruth (decide (truN (got truF (seen l)) = (got truF (seen l)).length)) l
def fOr (l : List Ag) : V := fTruth (decide (0 < truN (got truF (seen l)))) l
def fCat (l : List Ag) : V := orBad (bad texF (seen l)) (mkText (bs (allC (got texF (seen l)))))

/-! ### One more at the end -/
theorem got_app (f : V → Bool → V) (a b : List (V × Bool)) : got f (a ++ b) = got f a ++ got f b := by
 induction a with
 | nil => rfl
 | cons p a ih =>
   show (if goes (f p.1 p.2) then f p.1 p.2 :: got f (a ++ b) else got f (a ++ b)) = (if goes (f p.1 p.2) then f p.1 p.2 :: got f a else got f a) ++ got f b
   split
   · rw [ih]; rfl
   · exact ih
theorem bad_app (f : V → Bool → V) (a b : List (V × Bool)) : bad f (a ++ b) = if (bad f a).k = 4 then bad f a else bad f b := by
 induction a with
 | nil => rfl
 | cons p a ih =>
   show (if (f p.1 p.2).k = 4 then f p.1 p.2 else bad f (a ++ b)) = if (if (f p.1 p.2).k = 4 then f p.1 p.2 else bad f a).k = 4 then (if (f p.1 p.2).k = 4 then f p.1 p.2 else bad f a) else bad f b
   by_cases h : (f p.1 p.2).k = 4
   · simp only [h, if_true]
   · simp only [h, if_false]; exact ih
theorem bad_kind (f : V → Bool → V) (l : List (V × Bool)) : bad f l = .blank ∨ (bad f l).k = 4 := by
 induction l with
 | nil => exact .inl rfl
 | cons p l ih =>
   by_cases h : (f p.1 p.2).k = 4
   · exact .inr (by simp only [bad, h, if_true])
   · simp only [bad, h, if_false]; exact ih
theorem got_len (f : V → Bool → V) (l : List (V × Bool)) : (got f l).length ≤ l.length := by
 induction l with
 | nil => exact Nat.le_refl _
 | cons p l ih =>
   unfold got
   split
   · simp; exact ih
   · simp; omega
theorem sumN_app (a b : List V) : sumN (a ++ b) = sumN a + sumN b := by
 induction a with
 | nil => simp [sumN]
 | cons v a ih => simp only [List.cons_append, sumN, ih]; omega
theorem truN_app (a b : List V) : truN (a ++ b) = truN a + truN b := by
 induction a with
 | nil => simp [truN]
 | cons v a ih => simp only [List.cons_append, truN, ih]; omega
theorem truN_le (a : List V) : truN a ≤ a.length := by
 induction a with
 | nil => exact Nat.le_refl _
 | cons v a ih => simp only [truN, List.length_cons]; split <;> omega
theorem bestF_app (p : Int → Int → Bool) (b : Int) (l : List V) (v : V) : bestF p b (l ++ [v]) = if p v.n (bestF p b l) then v.n else bestF p b l := by
 induction l generalizing b with
 | nil => rfl
 | cons u l ih => exact ih _
theorem bestN_app (p : Int → Int → Bool) (l : List V) (v : V) : bestN p (l ++ [v]) = if l.length = 0 then v.n else if p v.n (bestN p l) then v.n else bestN p l := by
 cases l with
 | nil => rfl
 | cons u l =>
   rw [if_neg (by simp)]
   exact bestF_app p u.n l v
theorem catF_app (a : List UInt8) (l : List V) (v : V) : catF a (l ++ [v]) = if (catF a l).length ≤ 300 then catF a l ++ v.s.data.toList else catF a l := by
 induction l generalizing a with
 | nil => rfl
 | cons u l ih => exact ih _
theorem allC_app (a b : List V) : allC (a ++ b) = allC a ++ allC b := by
 induction a with
 | nil => rfl
 | cons v a ih => simp only [List.cons_append, allC, ih, List.append_assoc]
theorem catF_long (a : List UInt8) (l : List V) (h : 300 < a.length) : catF a l = a := by
 induction l with
 | nil => rfl
 | cons v l ih => show catF (if a.length ≤ 300 then _ else a) l = a; rw [if_neg (by omega)]; exact ih
theorem catF_all (a : List UInt8) (l : List V) : catF a l = a ++ allC l ∨ (300 < (catF a l).length ∧ 300 < (a ++ allC l).length) := by
 induction l generalizing a with
 | nil => exact .inl (by simp [catF, allC])
 | cons v l ih =>
   by_cases h : a.length ≤ 300
   · have e : catF a (v :: l) = catF (a ++ v.s.data.toList) l := by show catF (if a.length ≤ 300 then _ else a) l = _; rw [if_pos h]
     rw [e]
     have := ih (a ++ v.s.data.toList)
     simpa only [allC, List.append_assoc] using this
   · refine .inr ⟨?_, ?_⟩
     · rw [catF_long a _ (by omega)]; omega
     · rw [List.length_append]; omega
theorem bs_len (l : List UInt8) : (bs l).size = l.length := by show l.toArray.size = _; simp
theorem cat_text (l : List V) : mkText (bs (catF [] l)) = mkText (bs (allC l)) := by
 rcases catF_all [] l with h | ⟨h1, h2⟩
 · rw [h]; rfl
 · unfold mkText
   rw [bs_len, bs_len, if_neg (by omega), if_neg (by simpa using h2)]

/-! ### What comes of the values -/
theorem numF_ok (v : V) (a : Bool) (h : v.ok) : (numF v a).k = 0 ∨ (∃ e, numF v a = .err e ∧ 1 ≤ e ∧ e ≤ 5) ∨ ∃ n, numF v a = .num n ∧ I64 n ∧ canB n = true := by
 cases a with
 | false =>
   rcases toNum_cases v h with ⟨n, hn, h2⟩ | ⟨e, he, h2⟩
   · exact .inr (.inr ⟨n, hn, h2⟩)
   · exact .inr (.inl ⟨e, he, h2⟩)
 | true =>
   cases v with
   | blank => exact .inl rfl
   | tf b => exact .inl rfl
   | num n => exact .inr (.inr ⟨n, rfl, h⟩)
   | text s => exact .inl rfl
   | err e => exact .inr (.inl ⟨e, rfl, h⟩)
/-- Numbers. -/
def AllN (l : List V) : Prop := ∀ v ∈ l, ∃ n, v = .num n ∧ I64 n ∧ canB n = true
def OkS (l : List (V × Bool)) : Prop := ∀ p ∈ l, p.1.ok
theorem got_nums (l : List (V × Bool)) (h : OkS l) : AllN (got numF l) := by
 induction l with
 | nil => intro v hv; exact absurd hv (by simp [got])
 | cons p l ih =>
   have ih := ih (fun q hq => h q (by simp [hq]))
   unfold got
   split
   · rename_i g
     intro v hv
     rcases List.mem_cons.1 hv with rfl | hv
     · rcases numF_ok p.1 p.2 (h p (by simp)) with k | ⟨e, k, _⟩ | k
       · simp [goes, k] at g
       · simp [goes, k, V.k] at g
       · exact k
     · exact ih v hv
   · exact ih
def AgI (l : List Ag) : Prop := ∀ a ∈ l, ∀ r ∈ a.l, I64 r.n
theorem seen_ok (l : List Ag) (h : AgI l) : OkS (seen l) := by
 intro p hp
 obtain ⟨a, ha, hp⟩ := List.mem_flatMap.1 hp
 unfold seen1 at hp
 split at hp
 · obtain ⟨r, hr, rfl⟩ := List.mem_map.1 hp
   exact nm_ok _ _ _ _ (h a ha r hr)
 · simp at hp
   subst hp
   have := h a ha
   cases hl : a.l with
   | nil => trivial
   | cons r t => exact nm_ok _ _ _ _ (this r (by rw [hl]; simp))

/-! ### The order does not matter -/
/-! ### The mean is between -/
theorem sum_le {l : List V} {c : Int} (h : ∀ v ∈ l, v.n ≤ c) : sumN l ≤ l.length * c := by
 induction l with
 | nil => simp [sumN]
 | cons v l ih =>
   have h1 := h v (by simp)
   have h2 := ih (fun u hu => h u (by simp [hu]))
   simp only [sumN, List.length_cons]
   have e : ((l.length + 1 : Nat) : Int) * c = l.length * c + c := by rw [Int.natCast_add, Int.add_mul]; simp
   rw [e]; omega
theorem le_sum {l : List V} {c : Int} (h : ∀ v ∈ l, c ≤ v.n) : l.length * c ≤ sumN l := by
 induction l with
 | nil => simp [sumN]
 | cons v l ih =>
   have h1 := h v (by simp)
   have h2 := ih (fun u hu => h u (by simp [hu]))
   simp only [sumN, List.length_cons]
   have e : ((l.length + 1 : Nat) : Int) * c = l.length * c + c := by rw [Int.natCast_add, Int.add_mul]; simp
   rw [e]; omega

open Go.RowKit
set_option maxHeartbeats 1000000

theorem neg_mod (n b : Int) (hb : 0 < b) : (-n) % b = if n % b = 0 then 0 else b - n % b := by
 have h1 := Int.emod_add_mul_ediv n b
 have h2 := Int.emod_nonneg n (show b ≠ 0 by omega)
 have h3 := Int.emod_lt_of_pos n hb
 generalize n % b = r at *
 generalize n / b = q at *
 split
 · rename_i h
   have : -n = b * (-q) := by rw [Int.mul_neg]; omega
   rw [this, Int.mul_emod_right]
 · have : -n = (b - r) + b * (-q - 1) := by rw [Int.mul_sub, Int.mul_neg, Int.mul_one]; omega
   rw [this, Int.add_mul_emod_self_left, Int.emod_eq_of_lt (by omega) (by omega)]
/-- What is left of a by b, with the sign of b. -/
def fm (a b : Int) : Int := if 0 < b then a % b else -((-a) % (-b))
theorem tmod_pos (a b : Int) (ha : 0 ≤ a) : a.tmod b = a % b := Int.tmod_eq_emod_of_nonneg ha
theorem tmod_neg' (a b : Int) (ha : a < 0) : a.tmod b = -((-a) % b) := by
 have := Int.tmod_eq_emod_of_nonneg (a := -a) (b := b) (by omega)
 rw [Int.neg_tmod] at this
 omega
theorem emod_negb (a b : Int) : a % (-b) = a % b := Int.emod_neg a b
/-- The three ways of Go's own rest. -/
theorem fm_ways (a b : Int) (hb : b ≠ 0) : (a.tmod b = 0 → fm a b = 0) ∧ ((a.tmod b < 0 ∧ b < 0) ∨ (0 < a.tmod b ∧ 0 < b) → fm a b = a.tmod b) ∧ ((a.tmod b < 0 ∧ 0 < b) ∨ (0 < a.tmod b ∧ b < 0) → fm a b = a.tmod b + b) ∧ (a.tmod b < b ∨ b < 0) ∧ (a.tmod b < -b ∨ 0 < b) ∧ (-b < a.tmod b ∨ b < 0) ∧ (b < a.tmod b ∨ 0 < b) := by
 unfold fm
 by_cases ha : 0 ≤ a
 · rw [tmod_pos a b ha]
   by_cases hp : 0 < b
   · have h2 := Int.emod_nonneg a hb
     have h3 := Int.emod_lt_of_pos a hp
     rw [if_pos hp]
     generalize a % b = r at *
     refine ⟨fun h => ?_, fun h => ?_, fun h => ?_, ?_, ?_, ?_, ?_⟩ <;> omega
   · have e : a % b = a % (-b) := (emod_negb a b).symm
     have n := neg_mod a (-b) (by omega)
     have h2 := Int.emod_nonneg a (show -b ≠ 0 by omega)
     have h3 := Int.emod_lt_of_pos a (show 0 < -b by omega)
     rw [e, n]
     rw [if_neg hp]
     generalize a % (-b) = r at *
     split <;> (refine ⟨fun h => ?_, fun h => ?_, fun h => ?_, ?_, ?_, ?_, ?_⟩ <;> omega)
 · rw [tmod_neg' a b (by omega)]
   by_cases hp : 0 < b
   · have n := neg_mod (-a) b hp
     rw [Int.neg_neg] at n
     have h2 := Int.emod_nonneg (-a) hb
     have h3 := Int.emod_lt_of_pos (-a) hp
     rw [n]
     rw [if_pos hp]
     generalize (-a) % b = r at *
     split <;> (refine ⟨fun h => ?_, fun h => ?_, fun h => ?_, ?_, ?_, ?_, ?_⟩ <;> omega)
   · have e : (-a) % b = (-a) % (-b) := (emod_negb (-a) b).symm
     have h2 := Int.emod_nonneg (-a) (show -b ≠ 0 by omega)
     have h3 := Int.emod_lt_of_pos (-a) (show 0 < -b by omega)
     rw [e]
     rw [if_neg hp]
     generalize (-a) % (-b) = r at *
     refine ⟨fun h => ?_, fun h => ?_, fun h => ?_, ?_, ?_, ?_, ?_⟩ <;> omega
theorem fm_bd (a b : Int) (hb : b ≠ 0) : (0 < b → 0 ≤ fm a b ∧ fm a b < b) ∧ (b < 0 → b < fm a b ∧ fm a b ≤ 0) := by
 unfold fm
 constructor
 · intro h
   simp only [h, if_true]
   exact ⟨Int.emod_nonneg a hb, Int.emod_lt_of_pos a h⟩
 · intro h
   have h2 := Int.emod_nonneg (-a) (show -b ≠ 0 by omega)
   have h3 := Int.emod_lt_of_pos (-a) (show 0 < -b by omega)
   rw [if_neg (by omega)]
   omega

def modB (a b : Int) : Bool := (canB a && canB b) && b != 0
def modV (a b : Int) : Int := if modB a b then fm a b else 0
theorem modB_yes {a b : Int} (h : (canB a && canB b) = true) (hz : b ≠ 0) : modB a b = true := by unfold modB; rw [h]; simp [hz]
theorem modV_yes {a b : Int} (h : (canB a && canB b) = true) (hz : b ≠ 0) : modV a b = fm a b := by unfold modV; rw [modB_yes h hz]; rfl
theorem modB_no {a b : Int} (h : (canB a && canB b) = false) : modB a b = false := by unfold modB; rw [h]; rfl
theorem modV_no {a b : Int} (h : (canB a && canB b) = false) : modV a b = 0 := by unfold modV; rw [modB_no h]; rfl
theorem modB_nought (a : Int) : modB a 0 = false := by unfold modB; simp
theorem modV_nought (a : Int) : modV a 0 = 0 := by unfold modV; rw [modB_nought]; rfl

theorem mod_go (a b m : Int) (ha : I64 a) (hb : I64 b) (hc : (canB a && canB b) = true) (hz : b ≠ 0) (hm : a.tmod b = m) (r : Int)
   (hr : (m = 0 ∧ r = 0) ∨ (m < 0 ∧ b < 0 ∧ r = m) ∨ (0 < m ∧ 0 < b ∧ r = m) ∨ (m < 0 ∧ 0 < b ∧ r = m + b) ∨ (0 < m ∧ b < 0 ∧ r = m + b))
   (m1 : -9223372036854775808 ≤ m) (m2 : m ≤ 9223372036854775807) (w : World) :
   Calls Tryz.prog 117 #[.int .i64 a, .int .i64 b] w fun e w' => e = .returned (.tuple #[.int .i64 r, .bool true]) ∧ Ext w w' := by
 have hz1 : (b == 0) = false := by simp [hz]
 have hz3 : ¬ b = 0 := hz
 obtain ⟨a1, a2⟩ := ha; obtain ⟨b1, b2⟩ := hb
 clear hz
 rcases hr with ⟨h1, h3⟩ | ⟨h1, h2, h3⟩ | ⟨h1, h2, h3⟩ | ⟨h1, h2, h3⟩ | ⟨h1, h2, h3⟩
 all_goals
   have H3 : Hid (r = _) := h3
   clear h3
 · subst h1
   go_enter Tryz.func117, Tryz.ntmps117
   go_wp2_with (go_at_call 112; refine Calls.mono (numbers_2 a b w.heap.size _ (by simp [go_sem]) (by simp [go_sem])) ?_; rintro e w' ⟨rfl, rfl⟩)
   go_ret2
   exact ⟨ret_ib H3.out.symm rfl, (Ext.refl _).alloc _⟩
 all_goals
   have k1 : (m != 0) = true := by simp; omega
   have k2 : ¬ m = 0 := by omega
 · have k3 : decide (m < 0) = true := by simp; omega
   have k4 : decide (b < 0) = true := by simp; omega
   go_enter Tryz.func117, Tryz.ntmps117
   go_wp2_with (go_at_call 112; refine Calls.mono (numbers_2 a b w.heap.size _ (by simp [go_sem]) (by simp [go_sem])) ?_; rintro e w' ⟨rfl, rfl⟩)
   go_ret2
   exact ⟨ret_ib H3.out.symm rfl, (Ext.refl _).alloc _⟩
 · have k3 : decide (m < 0) = false := by simp; omega
   have k4 : decide (b < 0) = false := by simp; omega
   go_enter Tryz.func117, Tryz.ntmps117
   go_wp2_with (go_at_call 112; refine Calls.mono (numbers_2 a b w.heap.size _ (by simp [go_sem]) (by simp [go_sem])) ?_; rintro e w' ⟨rfl, rfl⟩)
   go_ret2
   exact ⟨ret_ib H3.out.symm rfl, (Ext.refl _).alloc _⟩
 · have k3 : decide (m < 0) = true := by simp; omega
   have k4 : decide (b < 0) = false := by simp; omega
   go_enter Tryz.func117, Tryz.ntmps117
   go_wp2_with (go_at_call 112; refine Calls.mono (numbers_2 a b w.heap.size _ (by simp [go_sem]) (by simp [go_sem])) ?_; rintro e w' ⟨rfl, rfl⟩)
   go_ret2
   exact ⟨ret_ib H3.out.symm rfl, (Ext.refl _).alloc _⟩
 · have k3 : decide (m < 0) = false := by simp; omega
   have k4 : decide (b < 0) = true := by simp; omega
   go_enter Tryz.func117, Tryz.ntmps117
   go_wp2_with (go_at_call 112; refine Calls.mono (numbers_2 a b w.heap.size _ (by simp [go_sem]) (by simp [go_sem])) ?_; rintro e w' ⟨rfl, rfl⟩)
   go_ret2
   exact ⟨ret_ib H3.out.symm rfl, (Ext.refl _).alloc _⟩
theorem mod_any (a b : Int) (ha : I64 a) (hb : I64 b) (w : World) : Calls Tryz.prog 117 #[.int .i64 a, .int .i64 b] w fun e w' => e = .returned (.tuple #[.int .i64 (modV a b), .bool (modB a b)]) ∧ Ext w w' := by
 cases hc : (canB a && canB b)
 · have HC : Hid (modB a b = false) := modB_no hc
   have HV : Hid (modV a b = 0) := modV_no hc
   go_enter Tryz.func117, Tryz.ntmps117
   go_wp2_with (go_at_call 112; refine Calls.mono (numbers_2 a b w.heap.size _ (by simp [go_sem]) (by simp [go_sem])) ?_; rintro e w' ⟨rfl, rfl⟩)
   go_ret2
   exact ⟨ret_ib HV.out.symm HC.out.symm, (Ext.refl _).alloc _⟩
 by_cases hz : b = 0
 · subst hz
   have HC : Hid (modB a 0 = false) := modB_nought a
   have HV : Hid (modV a 0 = 0) := modV_nought a
   go_enter Tryz.func117, Tryz.ntmps117
   go_wp2_with (go_at_call 112; refine Calls.mono (numbers_2 a 0 w.heap.size _ (by simp [go_sem]) (by simp [go_sem])) ?_; rintro e w' ⟨rfl, rfl⟩)
   go_ret2
   exact ⟨ret_ib HV.out.symm HC.out.symm, (Ext.refl _).alloc _⟩
 · rw [modB_yes hc hz, modV_yes hc hz]
   obtain ⟨f1, f2, f3, f4, f5, f6, f7⟩ := fm_ways a b hz
   have hb' := hb
   obtain ⟨b1, b2⟩ := hb'
   refine mod_go a b (a.tmod b) ha hb hc hz rfl (fm a b) ?_ (by omega) (by omega) w
   generalize a.tmod b = m at *
   by_cases k0 : m = 0
   · exact Or.inl ⟨k0, f1 k0⟩
   refine Or.inr ?_
   by_cases k1 : m < 0
   · by_cases k2 : b < 0
     · exact Or.inl ⟨k1, k2, f2 (Or.inl ⟨k1, k2⟩)⟩
     · exact Or.inr (Or.inr (Or.inl ⟨k1, by omega, f3 (Or.inl ⟨k1, by omega⟩)⟩))
   · by_cases k2 : b < 0
     · exact Or.inr (Or.inr (Or.inr ⟨by omega, k2, f3 (Or.inr ⟨by omega, k2⟩)⟩))
     · exact Or.inr (Or.inl ⟨by omega, by omega, f2 (Or.inr ⟨by omega, by omega⟩)⟩)

/-! ### the document's answers -/
theorem rest_go (a b : Int) (ha : I64 a) (hb : U64 b) (hz : 0 < b) (w : World) : Calls Tryz.prog 91 #[.int .i64 a, .int .u64 b] w fun e w' => e = .returned (.int .u64 (a % b)) ∧ w' = w := by
 have cs := fun W => rsize_any a ha W
 obtain ⟨b1, b2⟩ := hb
 have hz3 : ¬ b = 0 := by omega
 have h0 : 0 ≤ absI a := by unfold absI; split <;> omega
 have e1 : (absI a).tmod b = absI a % b := tmod_pos _ _ h0
 have r0 := Int.emod_nonneg (absI a) hz3
 have r1 := Int.emod_lt_of_pos (absI a) hz
 have hn : a < 0 → a % b = if absI a % b = 0 then 0 else b - absI a % b := by
   intro h
   have := neg_mod (-a) b hz
   rw [Int.neg_neg] at this
   rw [this]
   unfold absI
   rw [if_pos h]
 have hp : 0 ≤ a → a % b = absI a % b := by
   intro h
   unfold absI
   rw [if_neg (by omega)]
 obtain ⟨r, hr⟩ : ∃ r, r = absI a % b := ⟨_, rfl⟩
 rw [← hr] at e1 r0 r1 hn hp
 have HN : Hid (a < 0 → a % b = if r = 0 then 0 else b - r) := hn
 have HP : Hid (0 ≤ a → a % b = r) := hp
 have e2 : absI a % b = r := hr.symm
 clear hr hn hp
 by_cases ga : a < 0
 · by_cases gr : 0 < r
   · have HE : Hid (a % b = b - r) := by show a % b = b - r; rw [HN.out ga, if_neg (by omega)]
     go_enter Tryz.func91, Tryz.ntmps91
     go_wp2_with (go_at_call 51; refine (cs _).mono ?_; rintro e w' ⟨rfl, rfl⟩)
     go_ret
     exact ⟨ret_int HE.out.symm, rfl⟩
   · have HE : Hid (a % b = r) := by show a % b = r; rw [HN.out ga, if_pos (by omega)]; omega
     go_enter Tryz.func91, Tryz.ntmps91
     go_wp2_with (go_at_call 51; refine (cs _).mono ?_; rintro e w' ⟨rfl, rfl⟩)
     go_ret
     exact ⟨ret_int HE.out.symm, rfl⟩
 · have HE : Hid (a % b = r) := HP.out (by omega)
   go_enter Tryz.func91, Tryz.ntmps91
   go_wp2_with (go_at_call 51; refine (cs _).mono ?_; rintro e w' ⟨rfl, rfl⟩)
   go_ret
   exact ⟨ret_int HE.out.symm, rfl⟩
theorem rmod_pos (a b : Int) (ha : I64 a) (hb : I64 b) (hca : canB a = true) (hcb : canB b = true) (hz : 0 < b) (w : World) : Calls Tryz.prog 56 #[.int .i64 a, .int .i64 b] w fun e w' => e = .returned (.tuple #[.int .i64 (fm a b), .bool true]) ∧ w' = w := by
 have hf : fm a b = a % b := by unfold fm; rw [if_pos hz]
 have r0 := Int.emod_nonneg a (show b ≠ 0 by omega)
 have r1 := Int.emod_lt_of_pos a hz
 obtain ⟨b1, b2⟩ := hb
 have cr := fun W => rest_go a b ha ⟨by omega, by omega⟩ hz W
 have hz1 : (b == 0) = false := by simp; omega
 have hz2 : ¬ b < 0 := by omega
 have HF : Hid (fm a b = a % b) := hf
 clear hf ha
 generalize a % b = r at *
 go_enter Tryz.func56, Tryz.ntmps56
 go_wp2_with (first
   | (go_at_call 31; refine (rcan_any _ _).mono ?_; rintro e w' ⟨rfl, rfl⟩)
   | (go_at_call 91; refine (cr _).mono ?_; rintro e w' ⟨rfl, rfl⟩))
 go_ret2
 exact ⟨ret_ib HF.out.symm rfl, rfl⟩
theorem rmod_any (a b : Int) (ha : I64 a) (hb : I64 b) (w : World) : Calls Tryz.prog 56 #[.int .i64 a, .int .i64 b] w fun e w' => e = .returned (.tuple #[.int .i64 (modV a b), .bool (modB a b)]) ∧ w' = w := by
 cases hca : canB a
 · have HC : Hid (modB a b = false) := modB_no (by rw [hca]; rfl)
   have HV : Hid (modV a b = 0) := modV_no (by rw [hca]; rfl)
   go_enter Tryz.func56, Tryz.ntmps56
   go_wp2_with (go_at_call 31; refine (rcan_any _ _).mono ?_; rintro e w' ⟨rfl, rfl⟩)
   go_ret2
   exact ⟨ret_ib HV.out.symm HC.out.symm, rfl⟩
 cases hcb : canB b
 · have HC : Hid (modB a b = false) := modB_no (by rw [hca, hcb]; rfl)
   have HV : Hid (modV a b = 0) := modV_no (by rw [hca, hcb]; rfl)
   go_enter Tryz.func56, Tryz.ntmps56
   go_wp2_with (go_at_call 31; refine (rcan_any _ _).mono ?_; rintro e w' ⟨rfl, rfl⟩)
   go_ret2
   exact ⟨ret_ib HV.out.symm HC.out.symm, rfl⟩
 by_cases hz : b = 0
 · subst hz
   have HC : Hid (modB a 0 = false) := modB_nought a
   have HV : Hid (modV a 0 = 0) := modV_nought a
   go_enter Tryz.func56, Tryz.ntmps56
   go_wp2_with (go_at_call 31; refine (rcan_any _ _).mono ?_; rintro e w' ⟨rfl, rfl⟩)
   go_ret2
   exact ⟨ret_ib HV.out.symm HC.out.symm, rfl⟩
 rw [modB_yes (by rw [hca, hcb]; rfl) hz, modV_yes (by rw [hca, hcb]; rfl) hz]
 by_cases hp : 0 < b
 · exact rmod_pos a b ha hb hca hcb hp w
 · obtain ⟨a1, a2⟩ := ha; obtain ⟨b1, b2⟩ := hb
   have a3 : -9223372036854775808 < a := by unfold canB at hca; simp at hca; omega
   have b3 : -9223372036854775808 < b := by unfold canB at hcb; simp at hcb; omega
   have ka : canB (-a) = true := by unfold canB; simp; omega
   have kb : canB (-b) = true := by unfold canB; simp; omega
   have cr := fun W => rmod_pos (-a) (-b) ⟨by omega, by omega⟩ ⟨by omega, by omega⟩ ka kb (by omega) W
   have e1 : wrap64 (-a) = -a := by unfold wrap64; omega
   have e2 : wrap64 (-b) = -b := by unfold wrap64; omega
   have hf : fm a b = -(fm (-a) (-b)) := by unfold fm; rw [if_neg hp, if_pos (by omega)]
   have hbd := (fm_bd (-a) (-b) (by omega)).1 (by omega)
   have HF : Hid (fm a b = -(fm (-a) (-b))) := hf
   generalize fm (-a) (-b) = r at *
   have hz1 : (b == 0) = false := by simp [hz]
   have hlt : b < 0 := by omega
   obtain ⟨r0, r1⟩ := hbd
   have e3 : wrap64 (-r) = -r := by unfold wrap64; omega
   clear hf ka kb hp hz
   go_enter Tryz.func56, Tryz.ntmps56
   go_wp2_with (first
     | (go_at_call 31; refine (rcan_any _ _).mono ?_; rintro e w' ⟨rfl, rfl⟩)
     | (go_at_call 56; refine (cr _).mono ?_; rintro e w' ⟨rfl, rfl⟩))
   go_ret2
   exact ⟨ret_ib HF.out.symm rfl, rfl⟩
end Go.Proofs.YtalejeknigbhjaaGreatDoor
