/-
 Package funcs: call, by its names.
-/
import Derived.Test.YtalejeknigbhjaaGreatDoorY14
import Derived.Test.YtalejeknigbhjaaGreatDoorY17
import Derived.Test.YtalejeknigbhjaaGreatDoorY10
namespace Go.Proofs.YtalejeknigbhjaaGreatDoor
open Go.RowKit
set_option maxHeartbeats 1000000

theorem FitB.fit {W : World} {v : Value} {l : List Bg} (h : FitB W v l) : Fit W v (gsOf l) := ⟨h.rd.toA, h.i, h.s, by have := h.z; simpa [gsOf] using this⟩
/-- What lies ready: the arguments, the errors' names, the digits' table. -/
structure Rdy (W : World) (v : Value) (l : List Bg) : Prop where
 f : FitB W v l
 n : Nm W
 t : Tab W
theorem Rdy.ext {W W' : World} {v : Value} {l : List Bg} (h : Rdy W v l) (e : Ext W W') : Rdy W' v l := ⟨h.f.ext e, h.n.ext e, h.t.ext e⟩
theorem root_at (a : Int) (ha : I64 a) {W : World} (W' : World) (_ : Ext W W') : Calls Tryz.prog 75 #[.int .i64 a] W' fun e w' => e = .returned (.tuple #[.int .i64 (rootV a), .bool (rootB a)]) ∧ Ext W' w' := by
 unfold rootV rootB
 by_cases h : 0 ≤ a
 · obtain ⟨m, rfl⟩ : ∃ m : Nat, a = (m : Int) := ⟨a.toNat, by omega⟩
   rw [if_pos h]
   refine (root_any m (by have := ha.2; omega) W').mono ?_
   rintro e w' ⟨⟨r, rfl, hr, _⟩, E⟩
   have h2 : r = rtN (m * 10000) := hr.one (rt_is _)
   refine ⟨?_, E⟩
   rw [h2]
   simp
 · rw [if_neg h]
   refine (root_no a (by omega) W').mono ?_
   rintro e w' ⟨rfl, E⟩
   refine ⟨?_, E⟩
   simp [h]
theorem round_at (a d : Int) (ha : I64 a) {W : World} (W' : World) (_ : Ext W W') : Calls Tryz.prog 71 #[.int .i64 a, .int .i64 d] W' fun e w' => e = .returned (.tuple #[.int .i64 (rndV a d), .bool (rndB a d)]) ∧ Ext W' w' := round_any a d ha W'
theorem floor_at (a : Int) (ha : I64 a) {W : World} (W' : World) (_ : Ext W W') : Calls Tryz.prog 74 #[.int .i64 a] W' fun e w' => e = .returned (.tuple #[.int .i64 (floorV a), .bool (floorB a)]) ∧ Ext W' w' := floor_any a ha W'
theorem num_at (n : Int) {W : World} (hN : Nm W) (W' : World) (e : Ext W W') : Calls Tryz.prog 34 #[.int .i64 n] W' fun r w' => r = .returned (.agg #[.int .i64 (mkNum n).k, .int .i64 (mkNum n).n, .string (mkNum n).s, .int .i64 (mkNum n).e]) ∧ Ext W' w' := by
 have := vnum_any n W' (hN.ext e)
 rwa [dat_eq] at this
theorem size_at (n : Int) (hn : I64 n) (hc : canB n = true) {W : World} (W' : World) (_ : Ext W W') : Calls Tryz.prog 68 #[.int .i64 n] W' fun r w' => r = .returned (.int .i64 (szN n)) ∧ Ext W' w' := (xsize_any n hn hc W').mono (fun e w' h => ⟨h.1, by rw [h.2]; exact Ext.refl _⟩)

set_option maxRecDepth 100000 in
theorem xc_SUM (s : ByteArray) (hs : s.data.toList = [83, 85, 77]) (l : List Bg) (p : Option Addr) (n c : Nat) (W : World) (hR : Rdy W (.slice p n c) l) :
   Calls Tryz.prog 37 #[.slice p n c, .string s] W fun e w' => RzQ Rw.dat (xCall [83, 85, 77] l) e ∧ Ext W w' := by
 have HX : xCall [83, 85, 77] l = .ok (fSum (gsOf l)).rw := rfl
 rw [HX]
 clear HX
 have c0 : ∀ W', Ext W W' → Calls Tryz.prog 58 #[.slice p n c] W' fun e w' => e = .returned (.agg #[.int .i64 (fSum (gsOf l)).k, .int .i64 (fSum (gsOf l)).n, .string (fSum (gsOf l)).s, .int .i64 (fSum (gsOf l)).e]) ∧ Ext W' w' := fun W' e => by
   have := fsum_any (gsOf l) W' p n c (hR.f.ext e).fit (hR.n.ext e)
   rwa [dat_eq] at this
 generalize fSum (gsOf l) = v at *
 clear hR
 have hl : s.toList = [83, 85, 77] := by rw [ByteArray.toList_eq]; exact hs
 have e0 : (s.toList == [83, 85, 77]) = true := by rw [hl]; decide
 clear hs hl
 go_enter Tryz.func37, Tryz.ntmps37
 go_wp2_with fail
 refine (c0 _ ((Ext.refl _).alloc _)).mono ?_
 rintro e w1 ⟨rfl, E1⟩
 have B1 : Hid (Blk w1 W.heap.size (.int .i64 0) (.int .i64 0) (.string ⟨#[]⟩) (.int .i64 0) ∧ Ext W w1) := ⟨blk_top (by simp) E1, ((Ext.refl _).alloc _).trans E1⟩
 clear E1
 obtain ⟨z, ⟨b0, b1, b2, b3⟩, f0, f1, f2, f3⟩ := B1.out.1
 go_wp2_with fail
 exact fin4 b0 b1 b2 b3 rfl (by simp) B1.out.2 (fun W g0 g1 g2 g3 => by simp [results, Tryz.results37, go_sem, g0, g1, g2, g3]) (fun W h => ⟨rfl, h⟩)

set_option maxRecDepth 100000 in
theorem xc_COUNT (s : ByteArray) (hs : s.data.toList = [67, 79, 85, 78, 84]) (l : List Bg) (p : Option Addr) (n c : Nat) (W : World) (hR : Rdy W (.slice p n c) l) :
   Calls Tryz.prog 37 #[.slice p n c, .string s] W fun e w' => RzQ Rw.dat (xCall [67, 79, 85, 78, 84] l) e ∧ Ext W w' := by
 have HX : xCall [67, 79, 85, 78, 84] l = .ok (fCount (gsOf l)).rw := rfl
 rw [HX]
 clear HX
 have c0 : ∀ W', Ext W W' → Calls Tryz.prog 59 #[.slice p n c] W' fun e w' => e = .returned (.agg #[.int .i64 (fCount (gsOf l)).k, .int .i64 (fCount (gsOf l)).n, .string (fCount (gsOf l)).s, .int .i64 (fCount (gsOf l)).e]) ∧ Ext W' w' := fun W' e => by
   have := fcount_any (gsOf l) W' p n c (hR.f.ext e).fit (hR.n.ext e)
   rwa [dat_eq] at this
 generalize fCount (gsOf l) = v at *
 clear hR
 have hl : s.toList = [67, 79, 85, 78, 84] := by rw [ByteArray.toList_eq]; exact hs
 have e0 : (s.toList == [83, 85, 77]) = false := by rw [hl]; decide
 have e1 : (s.toList == [67, 79, 85, 78, 84]) = true := by rw [hl]; decide
 clear hs hl
 go_enter Tryz.func37, Tryz.ntmps37
 go_wp2_with fail
 refine (c0 _ ((Ext.refl _).alloc _)).mono ?_
 rintro e w1 ⟨rfl, E1⟩
 have B1 : Hid (Blk w1 W.heap.size (.int .i64 0) (.int .i64 0) (.string ⟨#[]⟩) (.int .i64 0) ∧ Ext W w1) := ⟨blk_top (by simp) E1, ((Ext.refl _).alloc _).trans E1⟩
 clear E1
 obtain ⟨z, ⟨b0, b1, b2, b3⟩, f0, f1, f2, f3⟩ := B1.out.1
 go_wp2_with fail
 exact fin4 b0 b1 b2 b3 rfl (by simp) B1.out.2 (fun W g0 g1 g2 g3 => by simp [results, Tryz.results37, go_sem, g0, g1, g2, g3]) (fun W h => ⟨rfl, h⟩)

set_option maxRecDepth 100000 in
theorem xc_MIN (s : ByteArray) (hs : s.data.toList = [77, 73, 78]) (l : List Bg) (p : Option Addr) (n c : Nat) (W : World) (hR : Rdy W (.slice p n c) l) :
   Calls Tryz.prog 37 #[.slice p n c, .string s] W fun e w' => RzQ Rw.dat (xCall [77, 73, 78] l) e ∧ Ext W w' := by
 have HX : xCall [77, 73, 78] l = .ok (fBest ltB (gsOf l)).rw := rfl
 rw [HX]
 clear HX
 have c0 : ∀ W', Ext W W' → Calls Tryz.prog 60 #[.slice p n c] W' fun e w' => e = .returned (.agg #[.int .i64 (fBest ltB (gsOf l)).k, .int .i64 (fBest ltB (gsOf l)).n, .string (fBest ltB (gsOf l)).s, .int .i64 (fBest ltB (gsOf l)).e]) ∧ Ext W' w' := fun W' e => by
   have := fmin_any (gsOf l) W' p n c (hR.f.ext e).fit (hR.n.ext e)
   rwa [dat_eq] at this
 generalize fBest ltB (gsOf l) = v at *
 clear hR
 have hl : s.toList = [77, 73, 78] := by rw [ByteArray.toList_eq]; exact hs
 have e0 : (s.toList == [83, 85, 77]) = false := by rw [hl]; decide
 have e1 : (s.toList == [67, 79, 85, 78, 84]) = false := by rw [hl]; decide
 have e2 : (s.toList == [77, 73, 78]) = true := by rw [hl]; decide
 clear hs hl
 go_enter Tryz.func37, Tryz.ntmps37
 go_wp2_with fail
 refine (c0 _ ((Ext.refl _).alloc _)).mono ?_
 rintro e w1 ⟨rfl, E1⟩
 have B1 : Hid (Blk w1 W.heap.size (.int .i64 0) (.int .i64 0) (.string ⟨#[]⟩) (.int .i64 0) ∧ Ext W w1) := ⟨blk_top (by simp) E1, ((Ext.refl _).alloc _).trans E1⟩
 clear E1
 obtain ⟨z, ⟨b0, b1, b2, b3⟩, f0, f1, f2, f3⟩ := B1.out.1
 go_wp2_with fail
 exact fin4 b0 b1 b2 b3 rfl (by simp) B1.out.2 (fun W g0 g1 g2 g3 => by simp [results, Tryz.results37, go_sem, g0, g1, g2, g3]) (fun W h => ⟨rfl, h⟩)

set_option maxRecDepth 100000 in
theorem xc_MAX (s : ByteArray) (hs : s.data.toList = [77, 65, 88]) (l : List Bg) (p : Option Addr) (n c : Nat) (W : World) (hR : Rdy W (.slice p n c) l) :
   Calls Tryz.prog 37 #[.slice p n c, .string s] W fun e w' => RzQ Rw.dat (xCall [77, 65, 88] l) e ∧ Ext W w' := by
 have HX : xCall [77, 65, 88] l = .ok (fBest gtB (gsOf l)).rw := rfl
 rw [HX]
 clear HX
 have c0 : ∀ W', Ext W W' → Calls Tryz.prog 61 #[.slice p n c] W' fun e w' => e = .returned (.agg #[.int .i64 (fBest gtB (gsOf l)).k, .int .i64 (fBest gtB (gsOf l)).n, .string (fBest gtB (gsOf l)).s, .int .i64 (fBest gtB (gsOf l)).e]) ∧ Ext W' w' := fun W' e => by
   have := fmax_any (gsOf l) W' p n c (hR.f.ext e).fit (hR.n.ext e)
   rwa [dat_eq] at this
 generalize fBest gtB (gsOf l) = v at *
 clear hR
 have hl : s.toList = [77, 65, 88] := by rw [ByteArray.toList_eq]; exact hs
 have e0 : (s.toList == [83, 85, 77]) = false := by rw [hl]; decide
 have e1 : (s.toList == [67, 79, 85, 78, 84]) = false := by rw [hl]; decide
 have e2 : (s.toList == [77, 73, 78]) = false := by rw [hl]; decide
 have e3 : (s.toList == [77, 65, 88]) = true := by rw [hl]; decide
 clear hs hl
 go_enter Tryz.func37, Tryz.ntmps37
 go_wp2_with fail
 refine (c0 _ ((Ext.refl _).alloc _)).mono ?_
 rintro e w1 ⟨rfl, E1⟩
 have B1 : Hid (Blk w1 W.heap.size (.int .i64 0) (.int .i64 0) (.string ⟨#[]⟩) (.int .i64 0) ∧ Ext W w1) := ⟨blk_top (by simp) E1, ((Ext.refl _).alloc _).trans E1⟩
 clear E1
 obtain ⟨z, ⟨b0, b1, b2, b3⟩, f0, f1, f2, f3⟩ := B1.out.1
 go_wp2_with fail
 exact fin4 b0 b1 b2 b3 rfl (by simp) B1.out.2 (fun W g0 g1 g2 g3 => by simp [results, Tryz.results37, go_sem, g0, g1, g2, g3]) (fun W h => ⟨rfl, h⟩)

set_option maxRecDepth 100000 in
theorem xc_AVERAGE (s : ByteArray) (hs : s.data.toList = [65, 86, 69, 82, 65, 71, 69]) (l : List Bg) (p : Option Addr) (n c : Nat) (W : World) (hR : Rdy W (.slice p n c) l) :
   Calls Tryz.prog 37 #[.slice p n c, .string s] W fun e w' => RzQ Rw.dat (xCall [65, 86, 69, 82, 65, 71, 69] l) e ∧ Ext W w' := by
 have HX : xCall [65, 86, 69, 82, 65, 71, 69] l = .ok (fMean (gsOf l)).rw := rfl
 rw [HX]
 clear HX
 have c0 : ∀ W', Ext W W' → Calls Tryz.prog 62 #[.slice p n c] W' fun e w' => e = .returned (.agg #[.int .i64 (fMean (gsOf l)).k, .int .i64 (fMean (gsOf l)).n, .string (fMean (gsOf l)).s, .int .i64 (fMean (gsOf l)).e]) ∧ Ext W' w' := fun W' e => by
   have := favg_any (gsOf l) W' p n c (hR.f.ext e).fit (hR.n.ext e)
   rwa [dat_eq] at this
 generalize fMean (gsOf l) = v at *
 clear hR
 have hl : s.toList = [65, 86, 69, 82, 65, 71, 69] := by rw [ByteArray.toList_eq]; exact hs
 have e0 : (s.toList == [83, 85, 77]) = false := by rw [hl]; decide
 have e1 : (s.toList == [67, 79, 85, 78, 84]) = false := by rw [hl]; decide
 have e2 : (s.toList == [77, 73, 78]) = false := by rw [hl]; decide
 have e3 : (s.toList == [77, 65, 88]) = false := by rw [hl]; decide
 have e4 : (s.toList == [65, 86, 69, 82, 65, 71, 69]) = true := by rw [hl]; decide
 clear hs hl
 go_enter Tryz.func37, Tryz.ntmps37
 go_wp2_with fail
 refine (c0 _ ((Ext.refl _).alloc _)).mono ?_
 rintro e w1 ⟨rfl, E1⟩
 have B1 : Hid (Blk w1 W.heap.size (.int .i64 0) (.int .i64 0) (.string ⟨#[]⟩) (.int .i64 0) ∧ Ext W w1) := ⟨blk_top (by simp) E1, ((Ext.refl _).alloc _).trans E1⟩
 clear E1
 obtain ⟨z, ⟨b0, b1, b2, b3⟩, f0, f1, f2, f3⟩ := B1.out.1
 go_wp2_with fail
 exact fin4 b0 b1 b2 b3 rfl (by simp) B1.out.2 (fun W g0 g1 g2 g3 => by simp [results, Tryz.results37, go_sem, g0, g1, g2, g3]) (fun W h => ⟨rfl, h⟩)

set_option maxRecDepth 100000 in
theorem xc_AND (s : ByteArray) (hs : s.data.toList = [65, 78, 68]) (l : List Bg) (p : Option Addr) (n c : Nat) (W : World) (hR : Rdy W (.slice p n c) l) :
   Calls Tryz.prog 37 #[.slice p n c, .string s] W fun e w' => RzQ Rw.dat (xCall [65, 78, 68] l) e ∧ Ext W w' := by
 have HX : xCall [65, 78, 68] l = .ok (fAnd (gsOf l)).rw := rfl
 rw [HX]
 clear HX
 have c0 : ∀ W', Ext W W' → Calls Tryz.prog 63 #[.slice p n c] W' fun e w' => e = .returned (.agg #[.int .i64 (fAnd (gsOf l)).k, .int .i64 (fAnd (gsOf l)).n, .string (fAnd (gsOf l)).s, .int .i64 (fAnd (gsOf l)).e]) ∧ Ext W' w' := fun W' e => by
   have := fand_any (gsOf l) W' p n c (hR.f.ext e).fit (hR.n.ext e)
   rwa [dat_eq] at this
 generalize fAnd (gsOf l) = v at *
 clear hR
 have hl : s.toList = [65, 78, 68] := by rw [ByteArray.toList_eq]; exact hs
 have e0 : (s.toList == [83, 85, 77]) = false := by rw [hl]; decide
 have e1 : (s.toList == [67, 79, 85, 78, 84]) = false := by rw [hl]; decide
 have e2 : (s.toList == [77, 73, 78]) = false := by rw [hl]; decide
 have e3 : (s.toList == [77, 65, 88]) = false := by rw [hl]; decide
 have e4 : (s.toList == [65, 86, 69, 82, 65, 71, 69]) = false := by rw [hl]; decide
 have e5 : (s.toList == [65, 78, 68]) = true := by rw [hl]; decide
 clear hs hl
 go_enter Tryz.func37, Tryz.ntmps37
 go_wp2_with fail
 refine (c0 _ ((Ext.refl _).alloc _)).mono ?_
 rintro e w1 ⟨rfl, E1⟩
 have B1 : Hid (Blk w1 W.heap.size (.int .i64 0) (.int .i64 0) (.string ⟨#[]⟩) (.int .i64 0) ∧ Ext W w1) := ⟨blk_top (by simp) E1, ((Ext.refl _).alloc _).trans E1⟩
 clear E1
 obtain ⟨z, ⟨b0, b1, b2, b3⟩, f0, f1, f2, f3⟩ := B1.out.1
 go_wp2_with fail
 exact fin4 b0 b1 b2 b3 rfl (by simp) B1.out.2 (fun W g0 g1 g2 g3 => by simp [results, Tryz.results37, go_sem, g0, g1, g2, g3]) (fun W h => ⟨rfl, h⟩)

set_option maxRecDepth 100000 in
theorem xc_OR (s : ByteArray) (hs : s.data.toList = [79, 82]) (l : List Bg) (p : Option Addr) (n c : Nat) (W : World) (hR : Rdy W (.slice p n c) l) :
   Calls Tryz.prog 37 #[.slice p n c, .string s] W fun e w' => RzQ Rw.dat (xCall [79, 82] l) e ∧ Ext W w' := by
 have HX : xCall [79, 82] l = .ok (fOr (gsOf l)).rw := rfl
 rw [HX]
 clear HX
 have c0 : ∀ W', Ext W W' → Calls Tryz.prog 64 #[.slice p n c] W' fun e w' => e = .returned (.agg #[.int .i64 (fOr (gsOf l)).k, .int .i64 (fOr (gsOf l)).n, .string (fOr (gsOf l)).s, .int .i64 (fOr (gsOf l)).e]) ∧ Ext W' w' := fun W' e => by
   have := for_any (gsOf l) W' p n c (hR.f.ext e).fit (hR.n.ext e)
   rwa [dat_eq] at this
 generalize fOr (gsOf l) = v at *
 clear hR
 have hl : s.toList = [79, 82] := by rw [ByteArray.toList_eq]; exact hs
 have e0 : (s.toList == [83, 85, 77]) = false := by rw [hl]; decide
 have e1 : (s.toList == [67, 79, 85, 78, 84]) = false := by rw [hl]; decide
 have e2 : (s.toList == [77, 73, 78]) = false := by rw [hl]; decide
 have e3 : (s.toList == [77, 65, 88]) = false := by rw [hl]; decide
 have e4 : (s.toList == [65, 86, 69, 82, 65, 71, 69]) = false := by rw [hl]; decide
 have e5 : (s.toList == [65, 78, 68]) = false := by rw [hl]; decide
 have e6 : (s.toList == [79, 82]) = true := by rw [hl]; decide
 clear hs hl
 go_enter Tryz.func37, Tryz.ntmps37
 go_wp2_with fail
 refine (c0 _ ((Ext.refl _).alloc _)).mono ?_
 rintro e w1 ⟨rfl, E1⟩
 have B1 : Hid (Blk w1 W.heap.size (.int .i64 0) (.int .i64 0) (.string ⟨#[]⟩) (.int .i64 0) ∧ Ext W w1) := ⟨blk_top (by simp) E1, ((Ext.refl _).alloc _).trans E1⟩
 clear E1
 obtain ⟨z, ⟨b0, b1, b2, b3⟩, f0, f1, f2, f3⟩ := B1.out.1
 go_wp2_with fail
 exact fin4 b0 b1 b2 b3 rfl (by simp) B1.out.2 (fun W g0 g1 g2 g3 => by simp [results, Tryz.results37, go_sem, g0, g1, g2, g3]) (fun W h => ⟨rfl, h⟩)

set_option maxRecDepth 100000 in
theorem xc_CONCAT (s : ByteArray) (hs : s.data.toList = [67, 79, 78, 67, 65, 84]) (l : List Bg) (p : Option Addr) (n c : Nat) (W : World) (hR : Rdy W (.slice p n c) l) :
   Calls Tryz.prog 37 #[.slice p n c, .string s] W fun e w' => RzQ Rw.dat (xCall [67, 79, 78, 67, 65, 84] l) e ∧ Ext W w' := by
 have HX : xCall [67, 79, 78, 67, 65, 84] l = .ok (fCat (gsOf l)).rw := rfl
 rw [HX]
 clear HX
 have c0 : ∀ W', Ext W W' → Calls Tryz.prog 65 #[.slice p n c] W' fun e w' => e = .returned (.agg #[.int .i64 (fCat (gsOf l)).k, .int .i64 (fCat (gsOf l)).n, .string (fCat (gsOf l)).s, .int .i64 (fCat (gsOf l)).e]) ∧ Ext W' w' := fun W' e => by
   have := fcat_any (gsOf l) W' p n c (hR.f.ext e).fit (hR.t.ext e) (hR.n.ext e)
   rwa [dat_eq] at this
 generalize fCat (gsOf l) = v at *
 clear hR
 have hl : s.toList = [67, 79, 78, 67, 65, 84] := by rw [ByteArray.toList_eq]; exact hs
 have e0 : (s.toList == [83, 85, 77]) = false := by rw [hl]; decide
 have e1 : (s.toList == [67, 79, 85, 78, 84]) = false := by rw [hl]; decide
 have e2 : (s.toList == [77, 73, 78]) = false := by rw [hl]; decide
 have e3 : (s.toList == [77, 65, 88]) = false := by rw [hl]; decide
 have e4 : (s.toList == [65, 86, 69, 82, 65, 71, 69]) = false := by rw [hl]; decide
 have e5 : (s.toList == [65, 78, 68]) = false := by rw [hl]; decide
 have e6 : (s.toList == [79, 82]) = false := by rw [hl]; decide
 have e7 : (s.toList == [67, 79, 78, 67, 65, 84]) = true := by rw [hl]; decide
 clear hs hl
 go_enter Tryz.func37, Tryz.ntmps37
 go_wp2_with fail
 refine (c0 _ ((Ext.refl _).alloc _)).mono ?_
 rintro e w1 ⟨rfl, E1⟩
 have B1 : Hid (Blk w1 W.heap.size (.int .i64 0) (.int .i64 0) (.string ⟨#[]⟩) (.int .i64 0) ∧ Ext W w1) := ⟨blk_top (by simp) E1, ((Ext.refl _).alloc _).trans E1⟩
 clear E1
 obtain ⟨z, ⟨b0, b1, b2, b3⟩, f0, f1, f2, f3⟩ := B1.out.1
 go_wp2_with fail
 exact fin4 b0 b1 b2 b3 rfl (by simp) B1.out.2 (fun W g0 g1 g2 g3 => by simp [results, Tryz.results37, go_sem, g0, g1, g2, g3]) (fun W h => ⟨rfl, h⟩)

set_option maxRecDepth 100000 in
theorem xc_IF (s : ByteArray) (hs : s.data.toList = [73, 70]) (l : List Bg) (a0 : Bg) (h0 : l[0]? = some a0) (a1 : Bg) (h1 : l[1]? = some a1) (p : Option Addr) (n c : Nat) (W : World) (hR : Rdy W (.slice p n c) l) :
   Calls Tryz.prog 37 #[.slice p n c, .string s] W fun e w' => RzQ Rw.dat (xCall [73, 70] l) e ∧ Ext W w' := by
 have HX : xCall [73, 70] l = xIf l := rfl
 rw [HX]
 clear HX
 have c0 : ∀ W', Ext W W' → Calls Tryz.prog 66 #[.slice p n c] W' fun e w' => RzQ Rw.dat (xIf l) e ∧ Ext W' w' := fun W' e => xchosen_any l a0 a1 h0 h1 p n c W' (hR.f.ext e) (hR.n.ext e)
 generalize xIf l = r at *
 clear hR h0 h1
 have hl : s.toList = [73, 70] := by rw [ByteArray.toList_eq]; exact hs
 have e0 : (s.toList == [83, 85, 77]) = false := by rw [hl]; decide
 have e1 : (s.toList == [67, 79, 85, 78, 84]) = false := by rw [hl]; decide
 have e2 : (s.toList == [77, 73, 78]) = false := by rw [hl]; decide
 have e3 : (s.toList == [77, 65, 88]) = false := by rw [hl]; decide
 have e4 : (s.toList == [65, 86, 69, 82, 65, 71, 69]) = false := by rw [hl]; decide
 have e5 : (s.toList == [65, 78, 68]) = false := by rw [hl]; decide
 have e6 : (s.toList == [79, 82]) = false := by rw [hl]; decide
 have e7 : (s.toList == [67, 79, 78, 67, 65, 84]) = false := by rw [hl]; decide
 have e8 : (s.toList == [73, 70]) = true := by rw [hl]; decide
 clear hs hl
 cases r with
 | ok r =>
   have C : ∀ W', Ext W W' → Calls Tryz.prog 66 #[.slice p n c] W' fun e w' => e = .returned (.agg #[.int .i64 r.k, .int .i64 r.n, .string r.s, .int .i64 r.e]) ∧ Ext W' w' := c0
   clear c0
   go_enter Tryz.func37, Tryz.ntmps37
   go_wp2_with fail
   refine (C _ ((Ext.refl _).alloc _)).mono ?_
   rintro e w1 ⟨rfl, E1⟩
   have B1 : Hid (Blk w1 W.heap.size (.int .i64 0) (.int .i64 0) (.string ⟨#[]⟩) (.int .i64 0) ∧ Ext W w1) := ⟨blk_top (by simp) E1, ((Ext.refl _).alloc _).trans E1⟩
   clear E1
   obtain ⟨z, ⟨b0, b1, b2, b3⟩, f0, f1, f2, f3⟩ := B1.out.1
   go_wp2_with fail
   exact fin4 b0 b1 b2 b3 rfl (by simp) B1.out.2 (fun W g0 g1 g2 g3 => by simp [results, Tryz.results37, go_sem, g0, g1, g2, g3]) (fun W h => ⟨rfl, h⟩)
 | error x =>
   have C : ∀ W', Ext W W' → Calls Tryz.prog 66 #[.slice p n c] W' fun e w' => e = pan x ∧ Ext W' w' := c0
   clear c0
   go_enter Tryz.func37, Tryz.ntmps37
   go_wp2_with fail
   refine (C _ ((Ext.refl _).alloc _)).mono ?_
   rintro e w1 ⟨rfl, E1⟩
   exact ⟨rfl, rfl, (((Ext.refl _).alloc _)).trans E1⟩

set_option maxRecDepth 100000 in
theorem xc_NOT (s : ByteArray) (hs : s.data.toList = [78, 79, 84]) (l : List Bg) (a0 : Bg) (h0 : l[0]? = some a0) (p : Option Addr) (n c : Nat) (W : World) (hR : Rdy W (.slice p n c) l) :
   Calls Tryz.prog 37 #[.slice p n c, .string s] W fun e w' => RzQ Rw.dat (xCall [78, 79, 84] l) e ∧ Ext W w' := by
 have hl : s.toList = [78, 79, 84] := by rw [ByteArray.toList_eq]; exact hs
 have e0 : (s.toList == [83, 85, 77]) = false := by rw [hl]; decide
 have e1 : (s.toList == [67, 79, 85, 78, 84]) = false := by rw [hl]; decide
 have e2 : (s.toList == [77, 73, 78]) = false := by rw [hl]; decide
 have e3 : (s.toList == [77, 65, 88]) = false := by rw [hl]; decide
 have e4 : (s.toList == [65, 86, 69, 82, 65, 71, 69]) = false := by rw [hl]; decide
 have e5 : (s.toList == [65, 78, 68]) = false := by rw [hl]; decide
 have e6 : (s.toList == [79, 82]) = false := by rw [hl]; decide
 have e7 : (s.toList == [67, 79, 78, 67, 65, 84]) = false := by rw [hl]; decide
 have e8 : (s.toList == [73, 70]) = false := by rw [hl]; decide
 have e9 : (s.toList == [78, 79, 84]) = true := by rw [hl]; decide
 clear hs hl
 cases ht : trR (sgl a0) with
 | error x =>
   have HX : xCall [78, 79, 84] l = .error x := by show xNot l = _; unfold xNot; rw [sg_of h0, ht]
   rw [HX]
   have c0 := xtruth_no hR.f hR.n h0 ht
   clear HX ht hR h0
   go_enter Tryz.func37, Tryz.ntmps37
   go_wp2_with fail
   refine (c0 _ ((Ext.refl _).alloc _)).mono ?_
   rintro e w1 ⟨rfl, E1⟩
   exact ⟨rfl, rfl, (((Ext.refl _).alloc _)).trans E1⟩
 | ok t =>
   have HX : xCall [78, 79, 84] l = .ok (V.tf (!t)).rw := by show xNot l = _; unfold xNot; rw [sg_of h0, ht]
   rw [HX]
   have c0 := xtruth_ok hR.f hR.n h0 ht
   clear HX ht hR h0
   cases t with
   | true =>
     have c1 : ∀ W', Ext W W' → Calls Tryz.prog 33 #[.bool false] W' fun r w' => r = .returned (.agg #[.int .i64 1, .int .i64 0, .string ⟨#[]⟩, .int .i64 0]) ∧ Ext W' w' := fun W' e => bool_at (W := W) false W' e
     go_enter Tryz.func37, Tryz.ntmps37
     go_wp2_with fail
     refine (c0 _ ((Ext.refl _).alloc _)).mono ?_
     rintro e w1 ⟨rfl, E1⟩
     have B1 : Hid (Blk w1 W.heap.size (.int .i64 0) (.int .i64 0) (.string ⟨#[]⟩) (.int .i64 0) ∧ Ext W w1) := ⟨blk_top (by simp) E1, ((Ext.refl _).alloc _).trans E1⟩
     clear E1
     go_wp2_with fail
     refine (c1 _ B1.out.2).mono ?_
     rintro e w2 ⟨rfl, E2⟩
     have B2 : Hid (Blk w2 W.heap.size (.int .i64 0) (.int .i64 0) (.string ⟨#[]⟩) (.int .i64 0) ∧ Ext W w2) := ⟨B1.out.1.ext E2, B1.out.2.trans E2⟩
     clear E2
     obtain ⟨z, ⟨b0, b1, b2, b3⟩, f0, f1, f2, f3⟩ := B2.out.1
     go_wp2_with fail
     exact fin4 b0 b1 b2 b3 rfl (by simp) B2.out.2 (fun W g0 g1 g2 g3 => by simp [results, Tryz.results37, go_sem, g0, g1, g2, g3]) (fun W h => ⟨rfl, h⟩)
   | false =>
     have c1 : ∀ W', Ext W W' → Calls Tryz.prog 33 #[.bool true] W' fun r w' => r = .returned (.agg #[.int .i64 1, .int .i64 1, .string ⟨#[]⟩, .int .i64 0]) ∧ Ext W' w' := fun W' e => bool_at (W := W) true W' e
     go_enter Tryz.func37, Tryz.ntmps37
     go_wp2_with fail
     refine (c0 _ ((Ext.refl _).alloc _)).mono ?_
     rintro e w1 ⟨rfl, E1⟩
     have B1 : Hid (Blk w1 W.heap.size (.int .i64 0) (.int .i64 0) (.string ⟨#[]⟩) (.int .i64 0) ∧ Ext W w1) := ⟨blk_top (by simp) E1, ((Ext.refl _).alloc _).trans E1⟩
     clear E1
     go_wp2_with fail
     refine (c1 _ B1.out.2).mono ?_
     rintro e w2 ⟨rfl, E2⟩
     have B2 : Hid (Blk w2 W.heap.size (.int .i64 0) (.int .i64 0) (.string ⟨#[]⟩) (.int .i64 0) ∧ Ext W w2) := ⟨B1.out.1.ext E2, B1.out.2.trans E2⟩
     clear E2
     obtain ⟨z, ⟨b0, b1, b2, b3⟩, f0, f1, f2, f3⟩ := B2.out.1
     go_wp2_with fail
     exact fin4 b0 b1 b2 b3 rfl (by simp) B2.out.2 (fun W g0 g1 g2 g3 => by simp [results, Tryz.results37, go_sem, g0, g1, g2, g3]) (fun W h => ⟨rfl, h⟩)

set_option maxRecDepth 100000 in
theorem xc_ABS (s : ByteArray) (hs : s.data.toList = [65, 66, 83]) (l : List Bg) (a0 : Bg) (h0 : l[0]? = some a0) (p : Option Addr) (n c : Nat) (W : World) (hR : Rdy W (.slice p n c) l) :
   Calls Tryz.prog 37 #[.slice p n c, .string s] W fun e w' => RzQ Rw.dat (xCall [65, 66, 83] l) e ∧ Ext W w' := by
 have hl : s.toList = [65, 66, 83] := by rw [ByteArray.toList_eq]; exact hs
 have e0 : (s.toList == [83, 85, 77]) = false := by rw [hl]; decide
 have e1 : (s.toList == [67, 79, 85, 78, 84]) = false := by rw [hl]; decide
 have e2 : (s.toList == [77, 73, 78]) = false := by rw [hl]; decide
 have e3 : (s.toList == [77, 65, 88]) = false := by rw [hl]; decide
 have e4 : (s.toList == [65, 86, 69, 82, 65, 71, 69]) = false := by rw [hl]; decide
 have e5 : (s.toList == [65, 78, 68]) = false := by rw [hl]; decide
 have e6 : (s.toList == [79, 82]) = false := by rw [hl]; decide
 have e7 : (s.toList == [67, 79, 78, 67, 65, 84]) = false := by rw [hl]; decide
 have e8 : (s.toList == [73, 70]) = false := by rw [hl]; decide
 have e9 : (s.toList == [78, 79, 84]) = false := by rw [hl]; decide
 have e10 : (s.toList == [65, 66, 83]) = true := by rw [hl]; decide
 clear hs hl
 have o0 := (At.mk hR.f hR.n h0).ok
 cases ht : nuR (sgl a0) with
 | error x =>
   have HX : xCall [65, 66, 83] l = .error x := by show xAbs l = _; unfold xAbs; rw [sg_of h0, ht]
   rw [HX]
   have c0 := xnumber_no hR.f hR.n h0 ht
   clear HX ht hR h0 o0
   go_enter Tryz.func37, Tryz.ntmps37
   go_wp2_with fail
   refine (c0 _ ((Ext.refl _).alloc _)).mono ?_
   rintro e w1 ⟨rfl, E1⟩
   exact ⟨rfl, rfl, (((Ext.refl _).alloc _)).trans E1⟩
 | ok a =>
   have HX : xCall [65, 66, 83] l = .ok (mkNum (szN a)).rw := by show xAbs l = _; unfold xAbs; rw [sg_of h0, ht]
   rw [HX]
   obtain ⟨i1, i2⟩ := nuR_can o0 ht
   have c0 := xnumber_ok hR.f hR.n h0 ht
   have c1 := size_at a i1 i2 (W := W)
   have c2 := num_at (szN a) hR.n
   generalize mkNum (szN a) = v at *
   generalize szN a = y at *
   clear HX ht hR h0 o0 i1 i2
   go_enter Tryz.func37, Tryz.ntmps37
   go_wp2_with fail
   refine (c0 _ ((Ext.refl _).alloc _)).mono ?_
   rintro e w1 ⟨rfl, E1⟩
   have B1 : Hid (Blk w1 W.heap.size (.int .i64 0) (.int .i64 0) (.string ⟨#[]⟩) (.int .i64 0) ∧ Ext W w1) := ⟨blk_top (by simp) E1, ((Ext.refl _).alloc _).trans E1⟩
   clear E1
   go_wp2_with fail
   refine (c1 _ B1.out.2).mono ?_
   rintro e w2 ⟨rfl, E2⟩
   have B2 : Hid (Blk w2 W.heap.size (.int .i64 0) (.int .i64 0) (.string ⟨#[]⟩) (.int .i64 0) ∧ Ext W w2) := ⟨B1.out.1.ext E2, B1.out.2.trans E2⟩
   clear E2
   go_wp2_with fail
   refine (c2 _ B2.out.2).mono ?_
   rintro e w3 ⟨rfl, E3⟩
   have B3 : Hid (Blk w3 W.heap.size (.int .i64 0) (.int .i64 0) (.string ⟨#[]⟩) (.int .i64 0) ∧ Ext W w3) := ⟨B2.out.1.ext E3, B2.out.2.trans E3⟩
   clear E3
   obtain ⟨z, ⟨b0, b1, b2, b3⟩, f0, f1, f2, f3⟩ := B3.out.1
   go_wp2_with fail
   exact fin4 b0 b1 b2 b3 rfl (by simp) B3.out.2 (fun W g0 g1 g2 g3 => by simp [results, Tryz.results37, go_sem, g0, g1, g2, g3]) (fun W h => ⟨rfl, h⟩)

set_option maxRecDepth 100000 in
theorem xc_ROUND (s : ByteArray) (hs : s.data.toList = [82, 79, 85, 78, 68]) (l : List Bg) (a0 : Bg) (h0 : l[0]? = some a0) (a1 : Bg) (h1 : l[1]? = some a1) (p : Option Addr) (n c : Nat) (W : World) (hR : Rdy W (.slice p n c) l) :
   Calls Tryz.prog 37 #[.slice p n c, .string s] W fun e w' => RzQ Rw.dat (xCall [82, 79, 85, 78, 68] l) e ∧ Ext W w' := by
 have hl : s.toList = [82, 79, 85, 78, 68] := by rw [ByteArray.toList_eq]; exact hs
 have e0 : (s.toList == [83, 85, 77]) = false := by rw [hl]; decide
 have e1 : (s.toList == [67, 79, 85, 78, 84]) = false := by rw [hl]; decide
 have e2 : (s.toList == [77, 73, 78]) = false := by rw [hl]; decide
 have e3 : (s.toList == [77, 65, 88]) = false := by rw [hl]; decide
 have e4 : (s.toList == [65, 86, 69, 82, 65, 71, 69]) = false := by rw [hl]; decide
 have e5 : (s.toList == [65, 78, 68]) = false := by rw [hl]; decide
 have e6 : (s.toList == [79, 82]) = false := by rw [hl]; decide
 have e7 : (s.toList == [67, 79, 78, 67, 65, 84]) = false := by rw [hl]; decide
 have e8 : (s.toList == [73, 70]) = false := by rw [hl]; decide
 have e9 : (s.toList == [78, 79, 84]) = false := by rw [hl]; decide
 have e10 : (s.toList == [65, 66, 83]) = false := by rw [hl]; decide
 have e11 : (s.toList == [82, 79, 85, 78, 68]) = true := by rw [hl]; decide
 clear hs hl
 have o0 := (At.mk hR.f hR.n h0).ok
 cases ht : nuR (sgl a0) with
 | error x =>
   have HX : xCall [82, 79, 85, 78, 68] l = .error x := by show xRound l = _; unfold xRound; rw [sg_of h0, ht]
   rw [HX]
   have c0 := xnumber_no hR.f hR.n h0 ht
   clear HX ht hR h0 o0
   go_enter Tryz.func37, Tryz.ntmps37
   go_wp2_with fail
   refine (c0 _ ((Ext.refl _).alloc _)).mono ?_
   rintro e w1 ⟨rfl, E1⟩
   exact ⟨rfl, rfl, (((Ext.refl _).alloc _)).trans E1⟩
 | ok a =>
   obtain ⟨i1, i2⟩ := nuR_can o0 ht
   have c0 := xnumber_ok hR.f hR.n h0 ht
   cases hu : whR (sgl a1) with
   | error x =>
     have HX : xCall [82, 79, 85, 78, 68] l = .error x := by show xRound l = _; unfold xRound; rw [sg_of h0, ht, sg_of h1, hu]
     rw [HX]
     have c1 := xwhole_no hR.f hR.n h1 hu
     clear HX ht hR h0 o0 hu h1
     go_enter Tryz.func37, Tryz.ntmps37
     go_wp2_with fail
     refine (c0 _ ((Ext.refl _).alloc _)).mono ?_
     rintro e w1 ⟨rfl, E1⟩
     have B1 : Hid (Blk w1 W.heap.size (.int .i64 0) (.int .i64 0) (.string ⟨#[]⟩) (.int .i64 0) ∧ Ext W w1) := ⟨blk_top (by simp) E1, ((Ext.refl _).alloc _).trans E1⟩
     clear E1
     go_wp2_with fail
     refine (c1 _ B1.out.2).mono ?_
     rintro e w2 ⟨rfl, E2⟩
     exact ⟨rfl, rfl, (B1.out.2).trans E2⟩
   | ok d =>
     have HX : xCall [82, 79, 85, 78, 68] l = (tolR (rndB a d) (rndV a d)).map V.rw := by show xRound l = _; unfold xRound; rw [sg_of h0, ht, sg_of h1, hu]
     rw [HX]
     have c1 := xwhole_ok hR.f hR.n h1 hu
     have c2 := round_at a d i1 (W := W)
     have hN := hR.n
     clear HX ht hR h0 o0 i1 i2 hu h1
     generalize rndV a d = y at *
     cases hB : rndB a d with
     | false =>
       rw [hB] at c2
       have c3 := told_no y (W := W)
       clear hB
       rw [show (tolR false y).map V.rw = .error 4 from rfl]
       go_enter Tryz.func37, Tryz.ntmps37
       go_wp2_with fail
       refine (c0 _ ((Ext.refl _).alloc _)).mono ?_
       rintro e w1 ⟨rfl, E1⟩
       have B1 : Hid (Blk w1 W.heap.size (.int .i64 0) (.int .i64 0) (.string ⟨#[]⟩) (.int .i64 0) ∧ Ext W w1) := ⟨blk_top (by simp) E1, ((Ext.refl _).alloc _).trans E1⟩
       clear E1
       go_wp2_with fail
       refine (c1 _ B1.out.2).mono ?_
       rintro e w2 ⟨rfl, E2⟩
       have B2 : Hid (Blk w2 W.heap.size (.int .i64 0) (.int .i64 0) (.string ⟨#[]⟩) (.int .i64 0) ∧ Ext W w2) := ⟨B1.out.1.ext E2, B1.out.2.trans E2⟩
       clear E2
       go_wp2_with fail
       refine (c2 _ B2.out.2).mono ?_
       rintro e w3 ⟨rfl, E3⟩
       have B3 : Hid (Blk w3 W.heap.size (.int .i64 0) (.int .i64 0) (.string ⟨#[]⟩) (.int .i64 0) ∧ Ext W w3) := ⟨B2.out.1.ext E3, B2.out.2.trans E3⟩
       clear E3
       go_wp2_with fail
       refine (c3 _ B3.out.2).mono ?_
       rintro e w4 ⟨rfl, E4⟩
       exact ⟨rfl, rfl, (B3.out.2).trans E4⟩
     | true =>
       rw [hB] at c2
       have c3 := told_ok y hN
       clear hB
       rw [show (tolR true y).map V.rw = .ok (mkNum y).rw from rfl]
       generalize mkNum y = v at *
       go_enter Tryz.func37, Tryz.ntmps37
       go_wp2_with fail
       refine (c0 _ ((Ext.refl _).alloc _)).mono ?_
       rintro e w1 ⟨rfl, E1⟩
       have B1 : Hid (Blk w1 W.heap.size (.int .i64 0) (.int .i64 0) (.string ⟨#[]⟩) (.int .i64 0) ∧ Ext W w1) := ⟨blk_top (by simp) E1, ((Ext.refl _).alloc _).trans E1⟩
       clear E1
       go_wp2_with fail
       refine (c1 _ B1.out.2).mono ?_
       rintro e w2 ⟨rfl, E2⟩
       have B2 : Hid (Blk w2 W.heap.size (.int .i64 0) (.int .i64 0) (.string ⟨#[]⟩) (.int .i64 0) ∧ Ext W w2) := ⟨B1.out.1.ext E2, B1.out.2.trans E2⟩
       clear E2
       go_wp2_with fail
       refine (c2 _ B2.out.2).mono ?_
       rintro e w3 ⟨rfl, E3⟩
       have B3 : Hid (Blk w3 W.heap.size (.int .i64 0) (.int .i64 0) (.string ⟨#[]⟩) (.int .i64 0) ∧ Ext W w3) := ⟨B2.out.1.ext E3, B2.out.2.trans E3⟩
       clear E3
       go_wp2_with fail
       refine (c3 _ B3.out.2).mono ?_
       rintro e w4 ⟨rfl, E4⟩
       have B4 : Hid (Blk w4 W.heap.size (.int .i64 0) (.int .i64 0) (.string ⟨#[]⟩) (.int .i64 0) ∧ Ext W w4) := ⟨B3.out.1.ext E4, B3.out.2.trans E4⟩
       clear E4
       obtain ⟨z, ⟨b0, b1, b2, b3⟩, f0, f1, f2, f3⟩ := B4.out.1
       go_wp2_with fail
       exact fin4 b0 b1 b2 b3 rfl (by simp) B4.out.2 (fun W g0 g1 g2 g3 => by simp [results, Tryz.results37, go_sem, g0, g1, g2, g3]) (fun W h => ⟨rfl, h⟩)

set_option maxRecDepth 100000 in
theorem xc_MOD (s : ByteArray) (hs : s.data.toList = [77, 79, 68]) (l : List Bg) (a0 : Bg) (h0 : l[0]? = some a0) (a1 : Bg) (h1 : l[1]? = some a1) (p : Option Addr) (n c : Nat) (W : World) (hR : Rdy W (.slice p n c) l) :
   Calls Tryz.prog 37 #[.slice p n c, .string s] W fun e w' => RzQ Rw.dat (xCall [77, 79, 68] l) e ∧ Ext W w' := by
 have HX : xCall [77, 79, 68] l = xMod l := rfl
 rw [HX]
 clear HX
 have c0 : ∀ W', Ext W W' → Calls Tryz.prog 73 #[.slice p n c] W' fun e w' => RzQ Rw.dat (xMod l) e ∧ Ext W' w' := fun W' e => xrest_any l a0 a1 h0 h1 p n c W' (hR.f.ext e) (hR.n.ext e)
 generalize xMod l = r at *
 clear hR h0 h1
 have hl : s.toList = [77, 79, 68] := by rw [ByteArray.toList_eq]; exact hs
 have e0 : (s.toList == [83, 85, 77]) = false := by rw [hl]; decide
 have e1 : (s.toList == [67, 79, 85, 78, 84]) = false := by rw [hl]; decide
 have e2 : (s.toList == [77, 73, 78]) = false := by rw [hl]; decide
 have e3 : (s.toList == [77, 65, 88]) = false := by rw [hl]; decide
 have e4 : (s.toList == [65, 86, 69, 82, 65, 71, 69]) = false := by rw [hl]; decide
 have e5 : (s.toList == [65, 78, 68]) = false := by rw [hl]; decide
 have e6 : (s.toList == [79, 82]) = false := by rw [hl]; decide
 have e7 : (s.toList == [67, 79, 78, 67, 65, 84]) = false := by rw [hl]; decide
 have e8 : (s.toList == [73, 70]) = false := by rw [hl]; decide
 have e9 : (s.toList == [78, 79, 84]) = false := by rw [hl]; decide
 have e10 : (s.toList == [65, 66, 83]) = false := by rw [hl]; decide
 have e11 : (s.toList == [82, 79, 85, 78, 68]) = false := by rw [hl]; decide
 have e12 : (s.toList == [77, 79, 68]) = true := by rw [hl]; decide
 clear hs hl
 cases r with
 | ok r =>
   have C : ∀ W', Ext W W' → Calls Tryz.prog 73 #[.slice p n c] W' fun e w' => e = .returned (.agg #[.int .i64 r.k, .int .i64 r.n, .string r.s, .int .i64 r.e]) ∧ Ext W' w' := c0
   clear c0
   go_enter Tryz.func37, Tryz.ntmps37
   go_wp2_with fail
   refine (C _ ((Ext.refl _).alloc _)).mono ?_
   rintro e w1 ⟨rfl, E1⟩
   have B1 : Hid (Blk w1 W.heap.size (.int .i64 0) (.int .i64 0) (.string ⟨#[]⟩) (.int .i64 0) ∧ Ext W w1) := ⟨blk_top (by simp) E1, ((Ext.refl _).alloc _).trans E1⟩
   clear E1
   obtain ⟨z, ⟨b0, b1, b2, b3⟩, f0, f1, f2, f3⟩ := B1.out.1
   go_wp2_with fail
   exact fin4 b0 b1 b2 b3 rfl (by simp) B1.out.2 (fun W g0 g1 g2 g3 => by simp [results, Tryz.results37, go_sem, g0, g1, g2, g3]) (fun W h => ⟨rfl, h⟩)
 | error x =>
   have C : ∀ W', Ext W W' → Calls Tryz.prog 73 #[.slice p n c] W' fun e w' => e = pan x ∧ Ext W' w' := c0
   clear c0
   go_enter Tryz.func37, Tryz.ntmps37
   go_wp2_with fail
   refine (C _ ((Ext.refl _).alloc _)).mono ?_
   rintro e w1 ⟨rfl, E1⟩
   exact ⟨rfl, rfl, (((Ext.refl _).alloc _)).trans E1⟩

set_option maxRecDepth 100000 in
theorem xc_FLOOR (s : ByteArray) (hs : s.data.toList = [70, 76, 79, 79, 82]) (l : List Bg) (a0 : Bg) (h0 : l[0]? = some a0) (p : Option Addr) (n c : Nat) (W : World) (hR : Rdy W (.slice p n c) l) :
   Calls Tryz.prog 37 #[.slice p n c, .string s] W fun e w' => RzQ Rw.dat (xCall [70, 76, 79, 79, 82] l) e ∧ Ext W w' := by
 have hl : s.toList = [70, 76, 79, 79, 82] := by rw [ByteArray.toList_eq]; exact hs
 have e0 : (s.toList == [83, 85, 77]) = false := by rw [hl]; decide
 have e1 : (s.toList == [67, 79, 85, 78, 84]) = false := by rw [hl]; decide
 have e2 : (s.toList == [77, 73, 78]) = false := by rw [hl]; decide
 have e3 : (s.toList == [77, 65, 88]) = false := by rw [hl]; decide
 have e4 : (s.toList == [65, 86, 69, 82, 65, 71, 69]) = false := by rw [hl]; decide
 have e5 : (s.toList == [65, 78, 68]) = false := by rw [hl]; decide
 have e6 : (s.toList == [79, 82]) = false := by rw [hl]; decide
 have e7 : (s.toList == [67, 79, 78, 67, 65, 84]) = false := by rw [hl]; decide
 have e8 : (s.toList == [73, 70]) = false := by rw [hl]; decide
 have e9 : (s.toList == [78, 79, 84]) = false := by rw [hl]; decide
 have e10 : (s.toList == [65, 66, 83]) = false := by rw [hl]; decide
 have e11 : (s.toList == [82, 79, 85, 78, 68]) = false := by rw [hl]; decide
 have e12 : (s.toList == [77, 79, 68]) = false := by rw [hl]; decide
 have e13 : (s.toList == [70, 76, 79, 79, 82]) = true := by rw [hl]; decide
 clear hs hl
 have o0 := (At.mk hR.f hR.n h0).ok
 cases ht : nuR (sgl a0) with
 | error x =>
   have HX : xCall [70, 76, 79, 79, 82] l = .error x := by show xFloor l = _; unfold xFloor; rw [sg_of h0, ht]
   rw [HX]
   have c0 := xnumber_no hR.f hR.n h0 ht
   clear HX ht hR h0 o0
   go_enter Tryz.func37, Tryz.ntmps37
   go_wp2_with fail
   refine (c0 _ ((Ext.refl _).alloc _)).mono ?_
   rintro e w1 ⟨rfl, E1⟩
   exact ⟨rfl, rfl, (((Ext.refl _).alloc _)).trans E1⟩
 | ok a =>
   have HX : xCall [70, 76, 79, 79, 82] l = (tolR (floorB a) (floorV a)).map V.rw := by show xFloor l = _; unfold xFloor; rw [sg_of h0, ht]
   rw [HX]
   obtain ⟨i1, i2⟩ := nuR_can o0 ht
   have c0 := xnumber_ok hR.f hR.n h0 ht
   have c1 := floor_at a i1 (W := W)
   have hN := hR.n
   clear HX ht hR h0 o0 i1 i2
   generalize floorV a = y at *
   cases hB : floorB a with
   | false =>
     rw [hB] at c1
     have c2 := told_no y (W := W)
     clear hB
     rw [show (tolR false y).map V.rw = .error 4 from rfl]
     go_enter Tryz.func37, Tryz.ntmps37
     go_wp2_with fail
     refine (c0 _ ((Ext.refl _).alloc _)).mono ?_
     rintro e w1 ⟨rfl, E1⟩
     have B1 : Hid (Blk w1 W.heap.size (.int .i64 0) (.int .i64 0) (.string ⟨#[]⟩) (.int .i64 0) ∧ Ext W w1) := ⟨blk_top (by simp) E1, ((Ext.refl _).alloc _).trans E1⟩
     clear E1
     go_wp2_with fail
     refine (c1 _ B1.out.2).mono ?_
     rintro e w2 ⟨rfl, E2⟩
     have B2 : Hid (Blk w2 W.heap.size (.int .i64 0) (.int .i64 0) (.string ⟨#[]⟩) (.int .i64 0) ∧ Ext W w2) := ⟨B1.out.1.ext E2, B1.out.2.trans E2⟩
     clear E2
     go_wp2_with fail
     refine (c2 _ B2.out.2).mono ?_
     rintro e w3 ⟨rfl, E3⟩
     exact ⟨rfl, rfl, (B2.out.2).trans E3⟩
   | true =>
     rw [hB] at c1
     have c2 := told_ok y hN
     clear hB
     rw [show (tolR true y).map V.rw = .ok (mkNum y).rw from rfl]
     generalize mkNum y = v at *
     go_enter Tryz.func37, Tryz.ntmps37
     go_wp2_with fail
     refine (c0 _ ((Ext.refl _).alloc _)).mono ?_
     rintro e w1 ⟨rfl, E1⟩
     have B1 : Hid (Blk w1 W.heap.size (.int .i64 0) (.int .i64 0) (.string ⟨#[]⟩) (.int .i64 0) ∧ Ext W w1) := ⟨blk_top (by simp) E1, ((Ext.refl _).alloc _).trans E1⟩
     clear E1
     go_wp2_with fail
     refine (c1 _ B1.out.2).mono ?_
     rintro e w2 ⟨rfl, E2⟩
     have B2 : Hid (Blk w2 W.heap.size (.int .i64 0) (.int .i64 0) (.string ⟨#[]⟩) (.int .i64 0) ∧ Ext W w2) := ⟨B1.out.1.ext E2, B1.out.2.trans E2⟩
     clear E2
     go_wp2_with fail
     refine (c2 _ B2.out.2).mono ?_
     rintro e w3 ⟨rfl, E3⟩
     have B3 : Hid (Blk w3 W.heap.size (.int .i64 0) (.int .i64 0) (.string ⟨#[]⟩) (.int .i64 0) ∧ Ext W w3) := ⟨B2.out.1.ext E3, B2.out.2.trans E3⟩
     clear E3
     obtain ⟨z, ⟨b0, b1, b2, b3⟩, f0, f1, f2, f3⟩ := B3.out.1
     go_wp2_with fail
     exact fin4 b0 b1 b2 b3 rfl (by simp) B3.out.2 (fun W g0 g1 g2 g3 => by simp [results, Tryz.results37, go_sem, g0, g1, g2, g3]) (fun W h => ⟨rfl, h⟩)

set_option maxRecDepth 100000 in
theorem xc_SQRT (s : ByteArray) (hs : s.data.toList = [83, 81, 82, 84]) (l : List Bg) (a0 : Bg) (h0 : l[0]? = some a0) (p : Option Addr) (n c : Nat) (W : World) (hR : Rdy W (.slice p n c) l) :
   Calls Tryz.prog 37 #[.slice p n c, .string s] W fun e w' => RzQ Rw.dat (xCall [83, 81, 82, 84] l) e ∧ Ext W w' := by
 have hl : s.toList = [83, 81, 82, 84] := by rw [ByteArray.toList_eq]; exact hs
 have e0 : (s.toList == [83, 85, 77]) = false := by rw [hl]; decide
 have e1 : (s.toList == [67, 79, 85, 78, 84]) = false := by rw [hl]; decide
 have e2 : (s.toList == [77, 73, 78]) = false := by rw [hl]; decide
 have e3 : (s.toList == [77, 65, 88]) = false := by rw [hl]; decide
 have e4 : (s.toList == [65, 86, 69, 82, 65, 71, 69]) = false := by rw [hl]; decide
 have e5 : (s.toList == [65, 78, 68]) = false := by rw [hl]; decide
 have e6 : (s.toList == [79, 82]) = false := by rw [hl]; decide
 have e7 : (s.toList == [67, 79, 78, 67, 65, 84]) = false := by rw [hl]; decide
 have e8 : (s.toList == [73, 70]) = false := by rw [hl]; decide
 have e9 : (s.toList == [78, 79, 84]) = false := by rw [hl]; decide
 have e10 : (s.toList == [65, 66, 83]) = false := by rw [hl]; decide
 have e11 : (s.toList == [82, 79, 85, 78, 68]) = false := by rw [hl]; decide
 have e12 : (s.toList == [77, 79, 68]) = false := by rw [hl]; decide
 have e13 : (s.toList == [70, 76, 79, 79, 82]) = false := by rw [hl]; decide
 have e14 : (s.toList == [83, 81, 82, 84]) = true := by rw [hl]; decide
 clear hs hl
 have o0 := (At.mk hR.f hR.n h0).ok
 cases ht : nuR (sgl a0) with
 | error x =>
   have HX : xCall [83, 81, 82, 84] l = .error x := by show xSqrt l = _; unfold xSqrt; rw [sg_of h0, ht]
   rw [HX]
   have c0 := xnumber_no hR.f hR.n h0 ht
   clear HX ht hR h0 o0
   go_enter Tryz.func37, Tryz.ntmps37
   go_wp2_with fail
   refine (c0 _ ((Ext.refl _).alloc _)).mono ?_
   rintro e w1 ⟨rfl, E1⟩
   exact ⟨rfl, rfl, (((Ext.refl _).alloc _)).trans E1⟩
 | ok a =>
   have HX : xCall [83, 81, 82, 84] l = (tolR (rootB a) (rootV a)).map V.rw := by show xSqrt l = _; unfold xSqrt; rw [sg_of h0, ht]
   rw [HX]
   obtain ⟨i1, i2⟩ := nuR_can o0 ht
   have c0 := xnumber_ok hR.f hR.n h0 ht
   have c1 := root_at a i1 (W := W)
   have hN := hR.n
   clear HX ht hR h0 o0 i1 i2
   generalize rootV a = y at *
   cases hB : rootB a with
   | false =>
     rw [hB] at c1
     have c2 := told_no y (W := W)
     clear hB
     rw [show (tolR false y).map V.rw = .error 4 from rfl]
     go_enter Tryz.func37, Tryz.ntmps37
     go_wp2_with fail
     refine (c0 _ ((Ext.refl _).alloc _)).mono ?_
     rintro e w1 ⟨rfl, E1⟩
     have B1 : Hid (Blk w1 W.heap.size (.int .i64 0) (.int .i64 0) (.string ⟨#[]⟩) (.int .i64 0) ∧ Ext W w1) := ⟨blk_top (by simp) E1, ((Ext.refl _).alloc _).trans E1⟩
     clear E1
     go_wp2_with fail
     refine (c1 _ B1.out.2).mono ?_
     rintro e w2 ⟨rfl, E2⟩
     have B2 : Hid (Blk w2 W.heap.size (.int .i64 0) (.int .i64 0) (.string ⟨#[]⟩) (.int .i64 0) ∧ Ext W w2) := ⟨B1.out.1.ext E2, B1.out.2.trans E2⟩
     clear E2
     go_wp2_with fail
     refine (c2 _ B2.out.2).mono ?_
     rintro e w3 ⟨rfl, E3⟩
     exact ⟨rfl, rfl, (B2.out.2).trans E3⟩
   | true =>
     rw [hB] at c1
     have c2 := told_ok y hN
     clear hB
     rw [show (tolR true y).map V.rw = .ok (mkNum y).rw from rfl]
     generalize mkNum y = v at *
     go_enter Tryz.func37, Tryz.ntmps37
     go_wp2_with fail
     refine (c0 _ ((Ext.refl _).alloc _)).mono ?_
     rintro e w1 ⟨rfl, E1⟩
     have B1 : Hid (Blk w1 W.heap.size (.int .i64 0) (.int .i64 0) (.string ⟨#[]⟩) (.int .i64 0) ∧ Ext W w1) := ⟨blk_top (by simp) E1, ((Ext.refl _).alloc _).trans E1⟩
     clear E1
     go_wp2_with fail
     refine (c1 _ B1.out.2).mono ?_
     rintro e w2 ⟨rfl, E2⟩
     have B2 : Hid (Blk w2 W.heap.size (.int .i64 0) (.int .i64 0) (.string ⟨#[]⟩) (.int .i64 0) ∧ Ext W w2) := ⟨B1.out.1.ext E2, B1.out.2.trans E2⟩
     clear E2
     go_wp2_with fail
     refine (c2 _ B2.out.2).mono ?_
     rintro e w3 ⟨rfl, E3⟩
     have B3 : Hid (Blk w3 W.heap.size (.int .i64 0) (.int .i64 0) (.string ⟨#[]⟩) (.int .i64 0) ∧ Ext W w3) := ⟨B2.out.1.ext E3, B2.out.2.trans E3⟩
     clear E3
     obtain ⟨z, ⟨b0, b1, b2, b3⟩, f0, f1, f2, f3⟩ := B3.out.1
     go_wp2_with fail
     exact fin4 b0 b1 b2 b3 rfl (by simp) B3.out.2 (fun W g0 g1 g2 g3 => by simp [results, Tryz.results37, go_sem, g0, g1, g2, g3]) (fun W h => ⟨rfl, h⟩)

set_option maxRecDepth 100000 in
theorem xc_LEN (s : ByteArray) (hs : s.data.toList = [76, 69, 78]) (l : List Bg) (a0 : Bg) (h0 : l[0]? = some a0) (p : Option Addr) (n c : Nat) (W : World) (hR : Rdy W (.slice p n c) l) :
   Calls Tryz.prog 37 #[.slice p n c, .string s] W fun e w' => RzQ Rw.dat (xCall [76, 69, 78] l) e ∧ Ext W w' := by
 have hl : s.toList = [76, 69, 78] := by rw [ByteArray.toList_eq]; exact hs
 have e0 : (s.toList == [83, 85, 77]) = false := by rw [hl]; decide
 have e1 : (s.toList == [67, 79, 85, 78, 84]) = false := by rw [hl]; decide
 have e2 : (s.toList == [77, 73, 78]) = false := by rw [hl]; decide
 have e3 : (s.toList == [77, 65, 88]) = false := by rw [hl]; decide
 have e4 : (s.toList == [65, 86, 69, 82, 65, 71, 69]) = false := by rw [hl]; decide
 have e5 : (s.toList == [65, 78, 68]) = false := by rw [hl]; decide
 have e6 : (s.toList == [79, 82]) = false := by rw [hl]; decide
 have e7 : (s.toList == [67, 79, 78, 67, 65, 84]) = false := by rw [hl]; decide
 have e8 : (s.toList == [73, 70]) = false := by rw [hl]; decide
 have e9 : (s.toList == [78, 79, 84]) = false := by rw [hl]; decide
 have e10 : (s.toList == [65, 66, 83]) = false := by rw [hl]; decide
 have e11 : (s.toList == [82, 79, 85, 78, 68]) = false := by rw [hl]; decide
 have e12 : (s.toList == [77, 79, 68]) = false := by rw [hl]; decide
 have e13 : (s.toList == [70, 76, 79, 79, 82]) = false := by rw [hl]; decide
 have e14 : (s.toList == [83, 81, 82, 84]) = false := by rw [hl]; decide
 have e15 : (s.toList == [76, 69, 78]) = true := by rw [hl]; decide
 clear hs hl
 have o0 := (At.mk hR.f hR.n h0).ok
 cases ht : teR (sgl a0) with
 | error x =>
   have HX : xCall [76, 69, 78] l = .error x := by show xLen l = _; unfold xLen; rw [sg_of h0, ht]
   rw [HX]
   have c0 := xtext_no hR.f hR.n hR.t h0 ht
   clear HX ht hR h0 o0
   go_enter Tryz.func37, Tryz.ntmps37
   go_wp2_with fail
   refine (c0 _ ((Ext.refl _).alloc _)).mono ?_
   rintro e w1 ⟨rfl, E1⟩
   exact ⟨rfl, rfl, (((Ext.refl _).alloc _)).trans E1⟩
 | ok q =>
   have HX : xCall [76, 69, 78] l = .ok (mkNum ((q.size : Int) * 10000)).rw := by show xLen l = _; unfold xLen; rw [sg_of h0, ht]
   rw [HX]
   have hq := teR_le o0 ht
   have hqI : (q.size : Int) ≤ 300 := by omega
   have c0 := xtext_ok hR.f hR.n hR.t h0 ht
   have c1 := num_at ((q.size : Int) * 10000) hR.n
   clear HX ht hR h0 o0 hq
   generalize mkNum ((q.size : Int) * 10000) = v at *
   go_enter Tryz.func37, Tryz.ntmps37
   go_wp2_with fail
   refine (c0 _ ((Ext.refl _).alloc _)).mono ?_
   rintro e w1 ⟨rfl, E1⟩
   have B1 : Hid (Blk w1 W.heap.size (.int .i64 0) (.int .i64 0) (.string ⟨#[]⟩) (.int .i64 0) ∧ Ext W w1) := ⟨blk_top (by simp) E1, ((Ext.refl _).alloc _).trans E1⟩
   clear E1
   go_wp2_with fail
   refine (c1 _ B1.out.2).mono ?_
   rintro e w2 ⟨rfl, E2⟩
   have B2 : Hid (Blk w2 W.heap.size (.int .i64 0) (.int .i64 0) (.string ⟨#[]⟩) (.int .i64 0) ∧ Ext W w2) := ⟨B1.out.1.ext E2, B1.out.2.trans E2⟩
   clear E2
   obtain ⟨z, ⟨b0, b1, b2, b3⟩, f0, f1, f2, f3⟩ := B2.out.1
   go_wp2_with fail
   exact fin4 b0 b1 b2 b3 rfl (by simp) B2.out.2 (fun W g0 g1 g2 g3 => by simp [results, Tryz.results37, go_sem, g0, g1, g2, g3]) (fun W h => ⟨rfl, h⟩)

set_option maxRecDepth 100000 in
theorem xc_LEFT (s : ByteArray) (hs : s.data.toList = [76, 69, 70, 84]) (l : List Bg) (a0 : Bg) (h0 : l[0]? = some a0) (p : Option Addr) (n c : Nat) (W : World) (hR : Rdy W (.slice p n c) l) :
   Calls Tryz.prog 37 #[.slice p n c, .string s] W fun e w' => RzQ Rw.dat (xCall [76, 69, 70, 84] l) e ∧ Ext W w' := by
 have HX : xCall [76, 69, 70, 84] l = xLeft l := rfl
 rw [HX]
 clear HX
 have c0 : ∀ W', Ext W W' → Calls Tryz.prog 77 #[.slice p n c] W' fun e w' => RzQ Rw.dat (xLeft l) e ∧ Ext W' w' := fun W' e => xleft_any l a0 h0 p n c W' (hR.f.ext e) (hR.n.ext e) (hR.t.ext e)
 generalize xLeft l = r at *
 clear hR h0
 have hl : s.toList = [76, 69, 70, 84] := by rw [ByteArray.toList_eq]; exact hs
 have e0 : (s.toList == [83, 85, 77]) = false := by rw [hl]; decide
 have e1 : (s.toList == [67, 79, 85, 78, 84]) = false := by rw [hl]; decide
 have e2 : (s.toList == [77, 73, 78]) = false := by rw [hl]; decide
 have e3 : (s.toList == [77, 65, 88]) = false := by rw [hl]; decide
 have e4 : (s.toList == [65, 86, 69, 82, 65, 71, 69]) = false := by rw [hl]; decide
 have e5 : (s.toList == [65, 78, 68]) = false := by rw [hl]; decide
 have e6 : (s.toList == [79, 82]) = false := by rw [hl]; decide
 have e7 : (s.toList == [67, 79, 78, 67, 65, 84]) = false := by rw [hl]; decide
 have e8 : (s.toList == [73, 70]) = false := by rw [hl]; decide
 have e9 : (s.toList == [78, 79, 84]) = false := by rw [hl]; decide
 have e10 : (s.toList == [65, 66, 83]) = false := by rw [hl]; decide
 have e11 : (s.toList == [82, 79, 85, 78, 68]) = false := by rw [hl]; decide
 have e12 : (s.toList == [77, 79, 68]) = false := by rw [hl]; decide
 have e13 : (s.toList == [70, 76, 79, 79, 82]) = false := by rw [hl]; decide
 have e14 : (s.toList == [83, 81, 82, 84]) = false := by rw [hl]; decide
 have e15 : (s.toList == [76, 69, 78]) = false := by rw [hl]; decide
 have e16 : (s.toList == [76, 69, 70, 84]) = true := by rw [hl]; decide
 clear hs hl
 cases r with
 | ok r =>
   have C : ∀ W', Ext W W' → Calls Tryz.prog 77 #[.slice p n c] W' fun e w' => e = .returned (.agg #[.int .i64 r.k, .int .i64 r.n, .string r.s, .int .i64 r.e]) ∧ Ext W' w' := c0
   clear c0
   go_enter Tryz.func37, Tryz.ntmps37
   go_wp2_with fail
   refine (C _ ((Ext.refl _).alloc _)).mono ?_
   rintro e w1 ⟨rfl, E1⟩
   have B1 : Hid (Blk w1 W.heap.size (.int .i64 0) (.int .i64 0) (.string ⟨#[]⟩) (.int .i64 0) ∧ Ext W w1) := ⟨blk_top (by simp) E1, ((Ext.refl _).alloc _).trans E1⟩
   clear E1
   obtain ⟨z, ⟨b0, b1, b2, b3⟩, f0, f1, f2, f3⟩ := B1.out.1
   go_wp2_with fail
   exact fin4 b0 b1 b2 b3 rfl (by simp) B1.out.2 (fun W g0 g1 g2 g3 => by simp [results, Tryz.results37, go_sem, g0, g1, g2, g3]) (fun W h => ⟨rfl, h⟩)
 | error x =>
   have C : ∀ W', Ext W W' → Calls Tryz.prog 77 #[.slice p n c] W' fun e w' => e = pan x ∧ Ext W' w' := c0
   clear c0
   go_enter Tryz.func37, Tryz.ntmps37
   go_wp2_with fail
   refine (C _ ((Ext.refl _).alloc _)).mono ?_
   rintro e w1 ⟨rfl, E1⟩
   exact ⟨rfl, rfl, (((Ext.refl _).alloc _)).trans E1⟩

set_option maxRecDepth 100000 in
theorem xc_INDEX (s : ByteArray) (hs : s.data.toList = [73, 78, 68, 69, 88]) (l : List Bg) (a0 : Bg) (h0 : l[0]? = some a0) (a1 : Bg) (h1 : l[1]? = some a1) (p : Option Addr) (n c : Nat) (W : World) (hR : Rdy W (.slice p n c) l) :
   Calls Tryz.prog 37 #[.slice p n c, .string s] W fun e w' => RzQ Rw.dat (xCall [73, 78, 68, 69, 88] l) e ∧ Ext W w' := by
 have HX : xCall [73, 78, 68, 69, 88] l = xIndex l := rfl
 rw [HX]
 clear HX
 have c0 : ∀ W', Ext W W' → Calls Tryz.prog 78 #[.slice p n c] W' fun e w' => RzQ Rw.dat (xIndex l) e ∧ Ext W' w' := fun W' e => xpicked_any l a0 a1 h0 h1 p n c W' (hR.f.ext e) (hR.n.ext e)
 generalize xIndex l = r at *
 clear hR h0 h1
 have hl : s.toList = [73, 78, 68, 69, 88] := by rw [ByteArray.toList_eq]; exact hs
 have e0 : (s.toList == [83, 85, 77]) = false := by rw [hl]; decide
 have e1 : (s.toList == [67, 79, 85, 78, 84]) = false := by rw [hl]; decide
 have e2 : (s.toList == [77, 73, 78]) = false := by rw [hl]; decide
 have e3 : (s.toList == [77, 65, 88]) = false := by rw [hl]; decide
 have e4 : (s.toList == [65, 86, 69, 82, 65, 71, 69]) = false := by rw [hl]; decide
 have e5 : (s.toList == [65, 78, 68]) = false := by rw [hl]; decide
 have e6 : (s.toList == [79, 82]) = false := by rw [hl]; decide
 have e7 : (s.toList == [67, 79, 78, 67, 65, 84]) = false := by rw [hl]; decide
 have e8 : (s.toList == [73, 70]) = false := by rw [hl]; decide
 have e9 : (s.toList == [78, 79, 84]) = false := by rw [hl]; decide
 have e10 : (s.toList == [65, 66, 83]) = false := by rw [hl]; decide
 have e11 : (s.toList == [82, 79, 85, 78, 68]) = false := by rw [hl]; decide
 have e12 : (s.toList == [77, 79, 68]) = false := by rw [hl]; decide
 have e13 : (s.toList == [70, 76, 79, 79, 82]) = false := by rw [hl]; decide
 have e14 : (s.toList == [83, 81, 82, 84]) = false := by rw [hl]; decide
 have e15 : (s.toList == [76, 69, 78]) = false := by rw [hl]; decide
 have e16 : (s.toList == [76, 69, 70, 84]) = false := by rw [hl]; decide
 have e17 : (s.toList == [73, 78, 68, 69, 88]) = true := by rw [hl]; decide
 clear hs hl
 cases r with
 | ok r =>
   have C : ∀ W', Ext W W' → Calls Tryz.prog 78 #[.slice p n c] W' fun e w' => e = .returned (.agg #[.int .i64 r.k, .int .i64 r.n, .string r.s, .int .i64 r.e]) ∧ Ext W' w' := c0
   clear c0
   go_enter Tryz.func37, Tryz.ntmps37
   go_wp2_with fail
   refine (C _ ((Ext.refl _).alloc _)).mono ?_
   rintro e w1 ⟨rfl, E1⟩
   have B1 : Hid (Blk w1 W.heap.size (.int .i64 0) (.int .i64 0) (.string ⟨#[]⟩) (.int .i64 0) ∧ Ext W w1) := ⟨blk_top (by simp) E1, ((Ext.refl _).alloc _).trans E1⟩
   clear E1
   obtain ⟨z, ⟨b0, b1, b2, b3⟩, f0, f1, f2, f3⟩ := B1.out.1
   go_wp2_with fail
   exact fin4 b0 b1 b2 b3 rfl (by simp) B1.out.2 (fun W g0 g1 g2 g3 => by simp [results, Tryz.results37, go_sem, g0, g1, g2, g3]) (fun W h => ⟨rfl, h⟩)
 | error x =>
   have C : ∀ W', Ext W W' → Calls Tryz.prog 78 #[.slice p n c] W' fun e w' => e = pan x ∧ Ext W' w' := c0
   clear c0
   go_enter Tryz.func37, Tryz.ntmps37
   go_wp2_with fail
   refine (C _ ((Ext.refl _).alloc _)).mono ?_
   rintro e w1 ⟨rfl, E1⟩
   exact ⟨rfl, rfl, (((Ext.refl _).alloc _)).trans E1⟩

set_option maxRecDepth 100000 in
theorem xc_ISERROR (s : ByteArray) (hs : s.data.toList = [73, 83, 69, 82, 82, 79, 82]) (l : List Bg) (a0 : Bg) (h0 : l[0]? = some a0) (p : Option Addr) (n c : Nat) (W : World) (hR : Rdy W (.slice p n c) l) :
   Calls Tryz.prog 37 #[.slice p n c, .string s] W fun e w' => RzQ Rw.dat (xCall [73, 83, 69, 82, 82, 79, 82] l) e ∧ Ext W w' := by
 have HX : xCall [73, 83, 69, 82, 82, 79, 82] l = .ok (V.tf ((sgl a0).k == 4)).rw := by show xIsErr l = _; unfold xIsErr; rw [sg_of h0]
 rw [HX]
 clear HX
 have c0 := xsingle_at hR.f hR.n h0
 have hf := fld_k
 generalize sgl a0 = v at *
 cases hk : (v.k == 4) with
 | true =>
   have c1 : ∀ W', Ext W W' → Calls Tryz.prog 33 #[.bool true] W' fun r w' => r = .returned (.agg #[.int .i64 1, .int .i64 1, .string ⟨#[]⟩, .int .i64 0]) ∧ Ext W' w' := fun W' e => bool_at (W := W) true W' e
   clear hR h0
   have hl : s.toList = [73, 83, 69, 82, 82, 79, 82] := by rw [ByteArray.toList_eq]; exact hs
   have e0 : (s.toList == [83, 85, 77]) = false := by rw [hl]; decide
   have e1 : (s.toList == [67, 79, 85, 78, 84]) = false := by rw [hl]; decide
   have e2 : (s.toList == [77, 73, 78]) = false := by rw [hl]; decide
   have e3 : (s.toList == [77, 65, 88]) = false := by rw [hl]; decide
   have e4 : (s.toList == [65, 86, 69, 82, 65, 71, 69]) = false := by rw [hl]; decide
   have e5 : (s.toList == [65, 78, 68]) = false := by rw [hl]; decide
   have e6 : (s.toList == [79, 82]) = false := by rw [hl]; decide
   have e7 : (s.toList == [67, 79, 78, 67, 65, 84]) = false := by rw [hl]; decide
   have e8 : (s.toList == [73, 70]) = false := by rw [hl]; decide
   have e9 : (s.toList == [78, 79, 84]) = false := by rw [hl]; decide
   have e10 : (s.toList == [65, 66, 83]) = false := by rw [hl]; decide
   have e11 : (s.toList == [82, 79, 85, 78, 68]) = false := by rw [hl]; decide
   have e12 : (s.toList == [77, 79, 68]) = false := by rw [hl]; decide
   have e13 : (s.toList == [70, 76, 79, 79, 82]) = false := by rw [hl]; decide
   have e14 : (s.toList == [83, 81, 82, 84]) = false := by rw [hl]; decide
   have e15 : (s.toList == [76, 69, 78]) = false := by rw [hl]; decide
   have e16 : (s.toList == [76, 69, 70, 84]) = false := by rw [hl]; decide
   have e17 : (s.toList == [73, 78, 68, 69, 88]) = false := by rw [hl]; decide
   have e18 : (s.toList == [73, 83, 69, 82, 82, 79, 82]) = true := by rw [hl]; decide
   clear hs hl
   go_enter Tryz.func37, Tryz.ntmps37
   go_wp2_with fail
   refine (c0 _ ((Ext.refl _).alloc _)).mono ?_
   rintro e w1 ⟨rfl, E1⟩
   have B1 : Hid (Blk w1 W.heap.size (.int .i64 0) (.int .i64 0) (.string ⟨#[]⟩) (.int .i64 0) ∧ Ext W w1) := ⟨blk_top (by simp) E1, ((Ext.refl _).alloc _).trans E1⟩
   clear E1
   go_wp2_with fail
   refine (c1 _ B1.out.2).mono ?_
   rintro e w2 ⟨rfl, E2⟩
   have B2 : Hid (Blk w2 W.heap.size (.int .i64 0) (.int .i64 0) (.string ⟨#[]⟩) (.int .i64 0) ∧ Ext W w2) := ⟨B1.out.1.ext E2, B1.out.2.trans E2⟩
   clear E2
   obtain ⟨z, ⟨b0, b1, b2, b3⟩, f0, f1, f2, f3⟩ := B2.out.1
   go_wp2_with fail
   exact fin4 b0 b1 b2 b3 rfl (by simp) B2.out.2 (fun W g0 g1 g2 g3 => by simp [results, Tryz.results37, go_sem, g0, g1, g2, g3]) (fun W h => ⟨rfl, h⟩)
 | false =>
   have c1 : ∀ W', Ext W W' → Calls Tryz.prog 33 #[.bool false] W' fun r w' => r = .returned (.agg #[.int .i64 1, .int .i64 0, .string ⟨#[]⟩, .int .i64 0]) ∧ Ext W' w' := fun W' e => bool_at (W := W) false W' e
   clear hR h0
   have hl : s.toList = [73, 83, 69, 82, 82, 79, 82] := by rw [ByteArray.toList_eq]; exact hs
   have e0 : (s.toList == [83, 85, 77]) = false := by rw [hl]; decide
   have e1 : (s.toList == [67, 79, 85, 78, 84]) = false := by rw [hl]; decide
   have e2 : (s.toList == [77, 73, 78]) = false := by rw [hl]; decide
   have e3 : (s.toList == [77, 65, 88]) = false := by rw [hl]; decide
   have e4 : (s.toList == [65, 86, 69, 82, 65, 71, 69]) = false := by rw [hl]; decide
   have e5 : (s.toList == [65, 78, 68]) = false := by rw [hl]; decide
   have e6 : (s.toList == [79, 82]) = false := by rw [hl]; decide
   have e7 : (s.toList == [67, 79, 78, 67, 65, 84]) = false := by rw [hl]; decide
   have e8 : (s.toList == [73, 70]) = false := by rw [hl]; decide
   have e9 : (s.toList == [78, 79, 84]) = false := by rw [hl]; decide
   have e10 : (s.toList == [65, 66, 83]) = false := by rw [hl]; decide
   have e11 : (s.toList == [82, 79, 85, 78, 68]) = false := by rw [hl]; decide
   have e12 : (s.toList == [77, 79, 68]) = false := by rw [hl]; decide
   have e13 : (s.toList == [70, 76, 79, 79, 82]) = false := by rw [hl]; decide
   have e14 : (s.toList == [83, 81, 82, 84]) = false := by rw [hl]; decide
   have e15 : (s.toList == [76, 69, 78]) = false := by rw [hl]; decide
   have e16 : (s.toList == [76, 69, 70, 84]) = false := by rw [hl]; decide
   have e17 : (s.toList == [73, 78, 68, 69, 88]) = false := by rw [hl]; decide
   have e18 : (s.toList == [73, 83, 69, 82, 82, 79, 82]) = true := by rw [hl]; decide
   clear hs hl
   go_enter Tryz.func37, Tryz.ntmps37
   go_wp2_with fail
   refine (c0 _ ((Ext.refl _).alloc _)).mono ?_
   rintro e w1 ⟨rfl, E1⟩
   have B1 : Hid (Blk w1 W.heap.size (.int .i64 0) (.int .i64 0) (.string ⟨#[]⟩) (.int .i64 0) ∧ Ext W w1) := ⟨blk_top (by simp) E1, ((Ext.refl _).alloc _).trans E1⟩
   clear E1
   go_wp2_with fail
   refine (c1 _ B1.out.2).mono ?_
   rintro e w2 ⟨rfl, E2⟩
   have B2 : Hid (Blk w2 W.heap.size (.int .i64 0) (.int .i64 0) (.string ⟨#[]⟩) (.int .i64 0) ∧ Ext W w2) := ⟨B1.out.1.ext E2, B1.out.2.trans E2⟩
   clear E2
   obtain ⟨z, ⟨b0, b1, b2, b3⟩, f0, f1, f2, f3⟩ := B2.out.1
   go_wp2_with fail
   exact fin4 b0 b1 b2 b3 rfl (by simp) B2.out.2 (fun W g0 g1 g2 g3 => by simp [results, Tryz.results37, go_sem, g0, g1, g2, g3]) (fun W h => ⟨rfl, h⟩)

set_option maxRecDepth 100000 in
theorem xc_IFERROR (s : ByteArray) (hs : s.data.toList = [73, 70, 69, 82, 82, 79, 82]) (l : List Bg) (a0 : Bg) (h0 : l[0]? = some a0) (a1 : Bg) (h1 : l[1]? = some a1) (p : Option Addr) (n c : Nat) (W : World) (hR : Rdy W (.slice p n c) l) :
   Calls Tryz.prog 37 #[.slice p n c, .string s] W fun e w' => RzQ Rw.dat (xCall [73, 70, 69, 82, 82, 79, 82] l) e ∧ Ext W w' := by
 have HX : xCall [73, 70, 69, 82, 82, 79, 82] l = xIfErr l := rfl
 rw [HX]
 clear HX
 have c0 : ∀ W', Ext W W' → Calls Tryz.prog 80 #[.slice p n c] W' fun e w' => RzQ Rw.dat (xIfErr l) e ∧ Ext W' w' := fun W' e => xsound_any l a0 a1 h0 h1 p n c W' (hR.f.ext e) (hR.n.ext e)
 generalize xIfErr l = r at *
 clear hR h0 h1
 have hl : s.toList = [73, 70, 69, 82, 82, 79, 82] := by rw [ByteArray.toList_eq]; exact hs
 have e0 : (s.toList == [83, 85, 77]) = false := by rw [hl]; decide
 have e1 : (s.toList == [67, 79, 85, 78, 84]) = false := by rw [hl]; decide
 have e2 : (s.toList == [77, 73, 78]) = false := by rw [hl]; decide
 have e3 : (s.toList == [77, 65, 88]) = false := by rw [hl]; decide
 have e4 : (s.toList == [65, 86, 69, 82, 65, 71, 69]) = false := by rw [hl]; decide
 have e5 : (s.toList == [65, 78, 68]) = false := by rw [hl]; decide
 have e6 : (s.toList == [79, 82]) = false := by rw [hl]; decide
 have e7 : (s.toList == [67, 79, 78, 67, 65, 84]) = false := by rw [hl]; decide
 have e8 : (s.toList == [73, 70]) = false := by rw [hl]; decide
 have e9 : (s.toList == [78, 79, 84]) = false := by rw [hl]; decide
 have e10 : (s.toList == [65, 66, 83]) = false := by rw [hl]; decide
 have e11 : (s.toList == [82, 79, 85, 78, 68]) = false := by rw [hl]; decide
 have e12 : (s.toList == [77, 79, 68]) = false := by rw [hl]; decide
 have e13 : (s.toList == [70, 76, 79, 79, 82]) = false := by rw [hl]; decide
 have e14 : (s.toList == [83, 81, 82, 84]) = false := by rw [hl]; decide
 have e15 : (s.toList == [76, 69, 78]) = false := by rw [hl]; decide
 have e16 : (s.toList == [76, 69, 70, 84]) = false := by rw [hl]; decide
 have e17 : (s.toList == [73, 78, 68, 69, 88]) = false := by rw [hl]; decide
 have e18 : (s.toList == [73, 83, 69, 82, 82, 79, 82]) = false := by rw [hl]; decide
 have e19 : (s.toList == [73, 70, 69, 82, 82, 79, 82]) = true := by rw [hl]; decide
 clear hs hl
 cases r with
 | ok r =>
   have C : ∀ W', Ext W W' → Calls Tryz.prog 80 #[.slice p n c] W' fun e w' => e = .returned (.agg #[.int .i64 r.k, .int .i64 r.n, .string r.s, .int .i64 r.e]) ∧ Ext W' w' := c0
   clear c0
   go_enter Tryz.func37, Tryz.ntmps37
   go_wp2_with fail
   refine (C _ ((Ext.refl _).alloc _)).mono ?_
   rintro e w1 ⟨rfl, E1⟩
   have B1 : Hid (Blk w1 W.heap.size (.int .i64 0) (.int .i64 0) (.string ⟨#[]⟩) (.int .i64 0) ∧ Ext W w1) := ⟨blk_top (by simp) E1, ((Ext.refl _).alloc _).trans E1⟩
   clear E1
   obtain ⟨z, ⟨b0, b1, b2, b3⟩, f0, f1, f2, f3⟩ := B1.out.1
   go_wp2_with fail
   exact fin4 b0 b1 b2 b3 rfl (by simp) B1.out.2 (fun W g0 g1 g2 g3 => by simp [results, Tryz.results37, go_sem, g0, g1, g2, g3]) (fun W h => ⟨rfl, h⟩)
 | error x =>
   have C : ∀ W', Ext W W' → Calls Tryz.prog 80 #[.slice p n c] W' fun e w' => e = pan x ∧ Ext W' w' := c0
   clear c0
   go_enter Tryz.func37, Tryz.ntmps37
   go_wp2_with fail
   refine (C _ ((Ext.refl _).alloc _)).mono ?_
   rintro e w1 ⟨rfl, E1⟩
   exact ⟨rfl, rfl, (((Ext.refl _).alloc _)).trans E1⟩
end Go.Proofs.YtalejeknigbhjaaGreatDoor
