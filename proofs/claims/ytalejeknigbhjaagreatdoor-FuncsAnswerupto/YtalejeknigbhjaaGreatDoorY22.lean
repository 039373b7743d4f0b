/-
 The document's answer for layer 14: of: ROUND, MOD, LEFT.
-/
import Derived.Test.YtalejeknigbhjaaGreatDoorY21
namespace Go.Proofs.YtalejeknigbhjaaGreatDoor
open Go.RowKit
set_option maxHeartbeats 1000000

set_option maxRecDepth 100000 in
theorem rof_round_err (s : ByteArray) (hs : s.data.toList = [82, 79, 85, 78, 68]) (a : Int) (x : Int) (p : Option Addr) (n c : Nat) (W : World) (l : List Bg) (a1 : Bg) (h1 : l[1]? = some a1) (hF : FitB W (.slice p n c) l) (hx : (sgl a1).toNum = .err x) :
   Calls Tryz.prog 30 #[.string s, .agg #[.int .i64 2, .int .i64 a, .string ⟨#[]⟩, .int .i64 0], .slice p n c] W fun e w' => e = .returned (.agg #[.int .i64 (V.err x).k, .int .i64 (V.err x).n, .string (V.err x).s, .int .i64 (V.err x).e]) ∧ Ext W w' := by
 have hl : s.toList = [82, 79, 85, 78, 68] := by rw [ByteArray.toList_eq]; exact hs
 have e0 : (s.toList == [78, 79, 84]) = false := by rw [hl]; decide
 have e1 : (s.toList == [76, 69, 78]) = false := by rw [hl]; decide
 have e2 : (s.toList == [65, 66, 83]) = false := by rw [hl]; decide
 have e3 : (s.toList == [70, 76, 79, 79, 82]) = false := by rw [hl]; decide
 have e4 : (s.toList == [83, 81, 82, 84]) = false := by rw [hl]; decide
 have e5 : (s.toList == [82, 79, 85, 78, 68]) = true := by rw [hl]; decide
 have e6 : (s.toList == [77, 79, 68]) = false := by rw [hl]; decide
 clear hs hl
 have cT : ∀ W, Calls Tryz.prog 17 #[.int .i64 10000] W fun r w' => r = .returned (.agg #[.int .i64 2, .int .i64 10000, .string ⟨#[]⟩, .int .i64 0]) ∧ Ext W w' := fun W => by
   have := rnum_any 10000 W
   rwa [mkNum_is (by decide)] at this
 have hn := hF.rd.len
 have hz := hF.z
 have hlt : 1 < l.length := (List.getElem?_eq_some_iff.1 h1).1
 have n1 : (n : Int) > 1 := by omega
 have n2 : (n : Int) ≤ 1500000 := by omega
 have cG := fun V (e : Ext W V) => rarg_any l 1 a1 h1 p n c V (hF.ext e)
 have ok1 : (sgl a1).ok := by have := hF.ok 1; rwa [sg_of h1] at this
 have cX := fun W => rtonum_any (sgl a1).k (sgl a1).n (sgl a1).s (sgl a1).e W (nm_of _ ok1).2
 rw [(nm_of _ ok1).1, hx] at cX
 simp only [V.dat] at cX
 generalize sgl a1 = v1 at *
 generalize v1.k = k1, v1.n = n1', v1.s = s1, v1.e = e1' at cG cX
 clear hn hz hlt hF h1 hx ok1
 go_enter Tryz.func30, Tryz.ntmps30
 go_wp2_with fail
 refine (cT _).mono ?_
 rintro e w1 ⟨rfl, E1⟩
 have H1 : Hid (Ext W w1 ∧ Blk w1 W.heap.size (.int .i64 2) (.int .i64 a) (.string ⟨#[]⟩) (.int .i64 0) ∧ Blk w1 (W.heap.size + 1) (.int .i64 0) (.int .i64 0) (.string ⟨#[]⟩) (.int .i64 0)) := ⟨(((Ext.refl _).alloc _).alloc _).trans E1, blk_top rfl (((Ext.refl _).alloc _).trans E1), blk_top (by simp) E1⟩
 clear E1
 have HW : Hid (W.heap.size + 1 < w1.heap.size) := H1.out.2.2.1
 go_wp2_with fail
 refine (cG _ (H1.out.1.alloc _)).mono ?_
 rintro e w2 ⟨rfl, E2⟩
 have H2 : Hid (Ext W w2 ∧ Blk w2 W.heap.size (.int .i64 2) (.int .i64 a) (.string ⟨#[]⟩) (.int .i64 0) ∧ Blk w2 (W.heap.size + 1) (.int .i64 0) (.int .i64 0) (.string ⟨#[]⟩) (.int .i64 0) ∧ Blk w2 w1.heap.size (.int .i64 2) (.int .i64 10000) (.string ⟨#[]⟩) (.int .i64 0)) := ⟨(H1.out.1).trans (((Ext.refl _).alloc _).trans E2), (H1.out.2.1).ext (((Ext.refl _).alloc _).trans E2), (H1.out.2.2).ext (((Ext.refl _).alloc _).trans E2), blk_top (by simp) E2⟩
 clear E2
 go_wp2_with fail
 refine (cX _).mono ?_
 rintro e w3 ⟨rfl, E3⟩
 have H3 : Hid (Ext W w3 ∧ Blk w3 W.heap.size (.int .i64 2) (.int .i64 a) (.string ⟨#[]⟩) (.int .i64 0) ∧ Blk w3 (W.heap.size + 1) (.int .i64 0) (.int .i64 0) (.string ⟨#[]⟩) (.int .i64 0) ∧ Blk w3 w1.heap.size (.int .i64 2) (.int .i64 10000) (.string ⟨#[]⟩) (.int .i64 0)) := ⟨(H2.out.1).trans (E3), (H2.out.2.1).ext (E3), (H2.out.2.2.1).ext (E3), (H2.out.2.2.2).ext (E3)⟩
 clear E3
 obtain ⟨zd, ⟨d0, d1, d2, d3⟩, df0, df1, df2, df3⟩ := H3.out.2.2.2
 go_upto_region 17 with fail
 have H4 : Hid (Ext W ((((w3.setCell ⟨w1.heap.size, 0, none⟩ (.int .i64 4)).setCell ⟨w1.heap.size, 1, none⟩ (.int .i64 0)).setCell ⟨w1.heap.size, 2, none⟩ (.string ⟨#[]⟩)).setCell ⟨w1.heap.size, 3, none⟩ (.int .i64 x)) ∧ Blk ((((w3.setCell ⟨w1.heap.size, 0, none⟩ (.int .i64 4)).setCell ⟨w1.heap.size, 1, none⟩ (.int .i64 0)).setCell ⟨w1.heap.size, 2, none⟩ (.string ⟨#[]⟩)).setCell ⟨w1.heap.size, 3, none⟩ (.int .i64 x)) W.heap.size (.int .i64 2) (.int .i64 a) (.string ⟨#[]⟩) (.int .i64 0) ∧ Blk ((((w3.setCell ⟨w1.heap.size, 0, none⟩ (.int .i64 4)).setCell ⟨w1.heap.size, 1, none⟩ (.int .i64 0)).setCell ⟨w1.heap.size, 2, none⟩ (.string ⟨#[]⟩)).setCell ⟨w1.heap.size, 3, none⟩ (.int .i64 x)) (W.heap.size + 1) (.int .i64 0) (.int .i64 0) (.string ⟨#[]⟩) (.int .i64 0) ∧ Blk ((((w3.setCell ⟨w1.heap.size, 0, none⟩ (.int .i64 4)).setCell ⟨w1.heap.size, 1, none⟩ (.int .i64 0)).setCell ⟨w1.heap.size, 2, none⟩ (.string ⟨#[]⟩)).setCell ⟨w1.heap.size, 3, none⟩ (.int .i64 x)) w1.heap.size (.int .i64 4) (.int .i64 0) (.string ⟨#[]⟩) (.int .i64 x)) := ⟨(((H3.out.1.setCell (p := ⟨w1.heap.size, 0, none⟩) (by have := HW.out; show W.heap.size ≤ w1.heap.size; omega) _).setCell (p := ⟨w1.heap.size, 1, none⟩) (by have := HW.out; show W.heap.size ≤ w1.heap.size; omega) _).setCell (p := ⟨w1.heap.size, 2, none⟩) (by have := HW.out; show W.heap.size ≤ w1.heap.size; omega) _).setCell (p := ⟨w1.heap.size, 3, none⟩) (by have := HW.out; show W.heap.size ≤ w1.heap.size; omega) _, (H3.out.2.1).far (by have := HW.out; omega) _ _ _ _, (H3.out.2.2.1).far (by have := HW.out; omega) _ _ _ _, (H3.out.2.2.2).set _ _ _ _⟩
 clear zd d0 d1 d2 d3 df0 df1 df2 df3
 generalize (((w3.setCell ⟨w1.heap.size, 0, none⟩ (.int .i64 4)).setCell ⟨w1.heap.size, 1, none⟩ (.int .i64 0)).setCell ⟨w1.heap.size, 2, none⟩ (.string ⟨#[]⟩)).setCell ⟨w1.heap.size, 3, none⟩ (.int .i64 x) = w4 at *
 obtain ⟨zd, ⟨d0, d1, d2, d3⟩, df0, df1, df2, df3⟩ := H4.out.2.2.2
 obtain ⟨zb, ⟨b0, b1, b2, b3⟩, bf0, bf1, bf2, bf3⟩ := H4.out.2.2.1
 go_wp2_with fail
 exact fin4 b0 b1 b2 b3 rfl (by simp) H4.out.1 (fun W g0 g1 g2 g3 => by simp [results, Tryz.results30, go_sem, g0, g1, g2, g3]) (fun W h => ⟨rfl, h⟩)

set_option maxRecDepth 100000 in
theorem rof_mod_err (s : ByteArray) (hs : s.data.toList = [77, 79, 68]) (a : Int) (x : Int) (p : Option Addr) (n c : Nat) (W : World) (l : List Bg) (a1 : Bg) (h1 : l[1]? = some a1) (hF : FitB W (.slice p n c) l) (hx : (sgl a1).toNum = .err x) :
   Calls Tryz.prog 30 #[.string s, .agg #[.int .i64 2, .int .i64 a, .string ⟨#[]⟩, .int .i64 0], .slice p n c] W fun e w' => e = .returned (.agg #[.int .i64 (V.err x).k, .int .i64 (V.err x).n, .string (V.err x).s, .int .i64 (V.err x).e]) ∧ Ext W w' := by
 have hl : s.toList = [77, 79, 68] := by rw [ByteArray.toList_eq]; exact hs
 have e0 : (s.toList == [78, 79, 84]) = false := by rw [hl]; decide
 have e1 : (s.toList == [76, 69, 78]) = false := by rw [hl]; decide
 have e2 : (s.toList == [65, 66, 83]) = false := by rw [hl]; decide
 have e3 : (s.toList == [70, 76, 79, 79, 82]) = false := by rw [hl]; decide
 have e4 : (s.toList == [83, 81, 82, 84]) = false := by rw [hl]; decide
 have e5 : (s.toList == [82, 79, 85, 78, 68]) = false := by rw [hl]; decide
 have e6 : (s.toList == [77, 79, 68]) = true := by rw [hl]; decide
 clear hs hl
 have cT : ∀ W, Calls Tryz.prog 17 #[.int .i64 10000] W fun r w' => r = .returned (.agg #[.int .i64 2, .int .i64 10000, .string ⟨#[]⟩, .int .i64 0]) ∧ Ext W w' := fun W => by
   have := rnum_any 10000 W
   rwa [mkNum_is (by decide)] at this
 have hn := hF.rd.len
 have hz := hF.z
 have hlt : 1 < l.length := (List.getElem?_eq_some_iff.1 h1).1
 have n1 : (n : Int) > 1 := by omega
 have n2 : (n : Int) ≤ 1500000 := by omega
 have cG := fun V (e : Ext W V) => rarg_any l 1 a1 h1 p n c V (hF.ext e)
 have ok1 : (sgl a1).ok := by have := hF.ok 1; rwa [sg_of h1] at this
 have cX := fun W => rtonum_any (sgl a1).k (sgl a1).n (sgl a1).s (sgl a1).e W (nm_of _ ok1).2
 rw [(nm_of _ ok1).1, hx] at cX
 simp only [V.dat] at cX
 generalize sgl a1 = v1 at *
 generalize v1.k = k1, v1.n = n1', v1.s = s1, v1.e = e1' at cG cX
 clear hn hz hlt hF h1 hx ok1
 go_enter Tryz.func30, Tryz.ntmps30
 go_wp2_with fail
 refine (cT _).mono ?_
 rintro e w1 ⟨rfl, E1⟩
 have H1 : Hid (Ext W w1 ∧ Blk w1 W.heap.size (.int .i64 2) (.int .i64 a) (.string ⟨#[]⟩) (.int .i64 0) ∧ Blk w1 (W.heap.size + 1) (.int .i64 0) (.int .i64 0) (.string ⟨#[]⟩) (.int .i64 0)) := ⟨(((Ext.refl _).alloc _).alloc _).trans E1, blk_top rfl (((Ext.refl _).alloc _).trans E1), blk_top (by simp) E1⟩
 clear E1
 have HW : Hid (W.heap.size + 1 < w1.heap.size) := H1.out.2.2.1
 go_wp2_with fail
 refine (cG _ (H1.out.1.alloc _)).mono ?_
 rintro e w2 ⟨rfl, E2⟩
 have H2 : Hid (Ext W w2 ∧ Blk w2 W.heap.size (.int .i64 2) (.int .i64 a) (.string ⟨#[]⟩) (.int .i64 0) ∧ Blk w2 (W.heap.size + 1) (.int .i64 0) (.int .i64 0) (.string ⟨#[]⟩) (.int .i64 0) ∧ Blk w2 w1.heap.size (.int .i64 2) (.int .i64 10000) (.string ⟨#[]⟩) (.int .i64 0)) := ⟨(H1.out.1).trans (((Ext.refl _).alloc _).trans E2), (H1.out.2.1).ext (((Ext.refl _).alloc _).trans E2), (H1.out.2.2).ext (((Ext.refl _).alloc _).trans E2), blk_top (by simp) E2⟩
 clear E2
 go_wp2_with fail
 refine (cX _).mono ?_
 rintro e w3 ⟨rfl, E3⟩
 have H3 : Hid (Ext W w3 ∧ Blk w3 W.heap.size (.int .i64 2) (.int .i64 a) (.string ⟨#[]⟩) (.int .i64 0) ∧ Blk w3 (W.heap.size + 1) (.int .i64 0) (.int .i64 0) (.string ⟨#[]⟩) (.int .i64 0) ∧ Blk w3 w1.heap.size (.int .i64 2) (.int .i64 10000) (.string ⟨#[]⟩) (.int .i64 0)) := ⟨(H2.out.1).trans (E3), (H2.out.2.1).ext (E3), (H2.out.2.2.1).ext (E3), (H2.out.2.2.2).ext (E3)⟩
 clear E3
 obtain ⟨zd, ⟨d0, d1, d2, d3⟩, df0, df1, df2, df3⟩ := H3.out.2.2.2
 go_upto_region 17 with fail
 have H4 : Hid (Ext W ((((w3.setCell ⟨w1.heap.size, 0, none⟩ (.int .i64 4)).setCell ⟨w1.heap.size, 1, none⟩ (.int .i64 0)).setCell ⟨w1.heap.size, 2, none⟩ (.string ⟨#[]⟩)).setCell ⟨w1.heap.size, 3, none⟩ (.int .i64 x)) ∧ Blk ((((w3.setCell ⟨w1.heap.size, 0, none⟩ (.int .i64 4)).setCell ⟨w1.heap.size, 1, none⟩ (.int .i64 0)).setCell ⟨w1.heap.size, 2, none⟩ (.string ⟨#[]⟩)).setCell ⟨w1.heap.size, 3, none⟩ (.int .i64 x)) W.heap.size (.int .i64 2) (.int .i64 a) (.string ⟨#[]⟩) (.int .i64 0) ∧ Blk ((((w3.setCell ⟨w1.heap.size, 0, none⟩ (.int .i64 4)).setCell ⟨w1.heap.size, 1, none⟩ (.int .i64 0)).setCell ⟨w1.heap.size, 2, none⟩ (.string ⟨#[]⟩)).setCell ⟨w1.heap.size, 3, none⟩ (.int .i64 x)) (W.heap.size + 1) (.int .i64 0) (.int .i64 0) (.string ⟨#[]⟩) (.int .i64 0) ∧ Blk ((((w3.setCell ⟨w1.heap.size, 0, none⟩ (.int .i64 4)).setCell ⟨w1.heap.size, 1, none⟩ (.int .i64 0)).setCell ⟨w1.heap.size, 2, none⟩ (.string ⟨#[]⟩)).setCell ⟨w1.heap.size, 3, none⟩ (.int .i64 x)) w1.heap.size (.int .i64 4) (.int .i64 0) (.string ⟨#[]⟩) (.int .i64 x)) := ⟨(((H3.out.1.setCell (p := ⟨w1.heap.size, 0, none⟩) (by have := HW.out; show W.heap.size ≤ w1.heap.size; omega) _).setCell (p := ⟨w1.heap.size, 1, none⟩) (by have := HW.out; show W.heap.size ≤ w1.heap.size; omega) _).setCell (p := ⟨w1.heap.size, 2, none⟩) (by have := HW.out; show W.heap.size ≤ w1.heap.size; omega) _).setCell (p := ⟨w1.heap.size, 3, none⟩) (by have := HW.out; show W.heap.size ≤ w1.heap.size; omega) _, (H3.out.2.1).far (by have := HW.out; omega) _ _ _ _, (H3.out.2.2.1).far (by have := HW.out; omega) _ _ _ _, (H3.out.2.2.2).set _ _ _ _⟩
 clear zd d0 d1 d2 d3 df0 df1 df2 df3
 generalize (((w3.setCell ⟨w1.heap.size, 0, none⟩ (.int .i64 4)).setCell ⟨w1.heap.size, 1, none⟩ (.int .i64 0)).setCell ⟨w1.heap.size, 2, none⟩ (.string ⟨#[]⟩)).setCell ⟨w1.heap.size, 3, none⟩ (.int .i64 x) = w4 at *
 obtain ⟨zd, ⟨d0, d1, d2, d3⟩, df0, df1, df2, df3⟩ := H4.out.2.2.2
 obtain ⟨zb, ⟨b0, b1, b2, b3⟩, bf0, bf1, bf2, bf3⟩ := H4.out.2.2.1
 go_wp2_with fail
 exact fin4 b0 b1 b2 b3 rfl (by simp) H4.out.1 (fun W g0 g1 g2 g3 => by simp [results, Tryz.results30, go_sem, g0, g1, g2, g3]) (fun W h => ⟨rfl, h⟩)

set_option maxRecDepth 100000 in
theorem rof_left_err (s : ByteArray) (hs : s.data.toList = [76, 69, 70, 84]) (t : ByteArray) (x : Int) (p : Option Addr) (n c : Nat) (W : World) (l : List Bg) (a1 : Bg) (h1 : l[1]? = some a1) (hF : FitB W (.slice p n c) l) (hx : (sgl a1).toNum = .err x) :
   Calls Tryz.prog 30 #[.string s, .agg #[.int .i64 3, .int .i64 0, .string t, .int .i64 0], .slice p n c] W fun e w' => e = .returned (.agg #[.int .i64 (V.err x).k, .int .i64 (V.err x).n, .string (V.err x).s, .int .i64 (V.err x).e]) ∧ Ext W w' := by
 have hl : s.toList = [76, 69, 70, 84] := by rw [ByteArray.toList_eq]; exact hs
 have e0 : (s.toList == [78, 79, 84]) = false := by rw [hl]; decide
 have e1 : (s.toList == [76, 69, 78]) = false := by rw [hl]; decide
 have e2 : (s.toList == [65, 66, 83]) = false := by rw [hl]; decide
 have e3 : (s.toList == [70, 76, 79, 79, 82]) = false := by rw [hl]; decide
 have e4 : (s.toList == [83, 81, 82, 84]) = false := by rw [hl]; decide
 have e5 : (s.toList == [82, 79, 85, 78, 68]) = false := by rw [hl]; decide
 have e6 : (s.toList == [77, 79, 68]) = false := by rw [hl]; decide
 clear hs hl
 have cT : ∀ W, Calls Tryz.prog 17 #[.int .i64 10000] W fun r w' => r = .returned (.agg #[.int .i64 2, .int .i64 10000, .string ⟨#[]⟩, .int .i64 0]) ∧ Ext W w' := fun W => by
   have := rnum_any 10000 W
   rwa [mkNum_is (by decide)] at this
 have hn := hF.rd.len
 have hz := hF.z
 have hlt : 1 < l.length := (List.getElem?_eq_some_iff.1 h1).1
 have n1 : (n : Int) > 1 := by omega
 have n2 : (n : Int) ≤ 1500000 := by omega
 have cG := fun V (e : Ext W V) => rarg_any l 1 a1 h1 p n c V (hF.ext e)
 have ok1 : (sgl a1).ok := by have := hF.ok 1; rwa [sg_of h1] at this
 have cX := fun W => rtonum_any (sgl a1).k (sgl a1).n (sgl a1).s (sgl a1).e W (nm_of _ ok1).2
 rw [(nm_of _ ok1).1, hx] at cX
 simp only [V.dat] at cX
 generalize sgl a1 = v1 at *
 generalize v1.k = k1, v1.n = n1', v1.s = s1, v1.e = e1' at cG cX
 clear hn hz hlt hF h1 hx ok1
 go_enter Tryz.func30, Tryz.ntmps30
 go_wp2_with fail
 refine (cT _).mono ?_
 rintro e w1 ⟨rfl, E1⟩
 have H1 : Hid (Ext W w1 ∧ Blk w1 W.heap.size (.int .i64 3) (.int .i64 0) (.string t) (.int .i64 0) ∧ Blk w1 (W.heap.size + 1) (.int .i64 0) (.int .i64 0) (.string ⟨#[]⟩) (.int .i64 0)) := ⟨(((Ext.refl _).alloc _).alloc _).trans E1, blk_top rfl (((Ext.refl _).alloc _).trans E1), blk_top (by simp) E1⟩
 clear E1
 have HW : Hid (W.heap.size + 1 < w1.heap.size) := H1.out.2.2.1
 go_wp2_with fail
 refine (cG _ (H1.out.1.alloc _)).mono ?_
 rintro e w2 ⟨rfl, E2⟩
 have H2 : Hid (Ext W w2 ∧ Blk w2 W.heap.size (.int .i64 3) (.int .i64 0) (.string t) (.int .i64 0) ∧ Blk w2 (W.heap.size + 1) (.int .i64 0) (.int .i64 0) (.string ⟨#[]⟩) (.int .i64 0) ∧ Blk w2 w1.heap.size (.int .i64 2) (.int .i64 10000) (.string ⟨#[]⟩) (.int .i64 0)) := ⟨(H1.out.1).trans (((Ext.refl _).alloc _).trans E2), (H1.out.2.1).ext (((Ext.refl _).alloc _).trans E2), (H1.out.2.2).ext (((Ext.refl _).alloc _).trans E2), blk_top (by simp) E2⟩
 clear E2
 go_wp2_with fail
 refine (cX _).mono ?_
 rintro e w3 ⟨rfl, E3⟩
 have H3 : Hid (Ext W w3 ∧ Blk w3 W.heap.size (.int .i64 3) (.int .i64 0) (.string t) (.int .i64 0) ∧ Blk w3 (W.heap.size + 1) (.int .i64 0) (.int .i64 0) (.string ⟨#[]⟩) (.int .i64 0) ∧ Blk w3 w1.heap.size (.int .i64 2) (.int .i64 10000) (.string ⟨#[]⟩) (.int .i64 0)) := ⟨(H2.out.1).trans (E3), (H2.out.2.1).ext (E3), (H2.out.2.2.1).ext (E3), (H2.out.2.2.2).ext (E3)⟩
 clear E3
 obtain ⟨zd, ⟨d0, d1, d2, d3⟩, df0, df1, df2, df3⟩ := H3.out.2.2.2
 go_upto_region 17 with fail
 have H4 : Hid (Ext W ((((w3.setCell ⟨w1.heap.size, 0, none⟩ (.int .i64 4)).setCell ⟨w1.heap.size, 1, none⟩ (.int .i64 0)).setCell ⟨w1.heap.size, 2, none⟩ (.string ⟨#[]⟩)).setCell ⟨w1.heap.size, 3, none⟩ (.int .i64 x)) ∧ Blk ((((w3.setCell ⟨w1.heap.size, 0, none⟩ (.int .i64 4)).setCell ⟨w1.heap.size, 1, none⟩ (.int .i64 0)).setCell ⟨w1.heap.size, 2, none⟩ (.string ⟨#[]⟩)).setCell ⟨w1.heap.size, 3, none⟩ (.int .i64 x)) W.heap.size (.int .i64 3) (.int .i64 0) (.string t) (.int .i64 0) ∧ Blk ((((w3.setCell ⟨w1.heap.size, 0, none⟩ (.int .i64 4)).setCell ⟨w1.heap.size, 1, none⟩ (.int .i64 0)).setCell ⟨w1.heap.size, 2, none⟩ (.string ⟨#[]⟩)).setCell ⟨w1.heap.size, 3, none⟩ (.int .i64 x)) (W.heap.size + 1) (.int .i64 0) (.int .i64 0) (.string ⟨#[]⟩) (.int .i64 0) ∧ Blk ((((w3.setCell ⟨w1.heap.size, 0, none⟩ (.int .i64 4)).setCell ⟨w1.heap.size, 1, none⟩ (.int .i64 0)).setCell ⟨w1.heap.size, 2, none⟩ (.string ⟨#[]⟩)).setCell ⟨w1.heap.size, 3, none⟩ (.int .i64 x)) w1.heap.size (.int .i64 4) (.int .i64 0) (.string ⟨#[]⟩) (.int .i64 x)) := ⟨(((H3.out.1.setCell (p := ⟨w1.heap.size, 0, none⟩) (by have := HW.out; show W.heap.size ≤ w1.heap.size; omega) _).setCell (p := ⟨w1.heap.size, 1, none⟩) (by have := HW.out; show W.heap.size ≤ w1.heap.size; omega) _).setCell (p := ⟨w1.heap.size, 2, none⟩) (by have := HW.out; show W.heap.size ≤ w1.heap.size; omega) _).setCell (p := ⟨w1.heap.size, 3, none⟩) (by have := HW.out; show W.heap.size ≤ w1.heap.size; omega) _, (H3.out.2.1).far (by have := HW.out; omega) _ _ _ _, (H3.out.2.2.1).far (by have := HW.out; omega) _ _ _ _, (H3.out.2.2.2).set _ _ _ _⟩
 clear zd d0 d1 d2 d3 df0 df1 df2 df3
 generalize (((w3.setCell ⟨w1.heap.size, 0, none⟩ (.int .i64 4)).setCell ⟨w1.heap.size, 1, none⟩ (.int .i64 0)).setCell ⟨w1.heap.size, 2, none⟩ (.string ⟨#[]⟩)).setCell ⟨w1.heap.size, 3, none⟩ (.int .i64 x) = w4 at *
 obtain ⟨zd, ⟨d0, d1, d2, d3⟩, df0, df1, df2, df3⟩ := H4.out.2.2.2
 obtain ⟨zb, ⟨b0, b1, b2, b3⟩, bf0, bf1, bf2, bf3⟩ := H4.out.2.2.1
 go_wp2_with fail
 exact fin4 b0 b1 b2 b3 rfl (by simp) H4.out.1 (fun W g0 g1 g2 g3 => by simp [results, Tryz.results30, go_sem, g0, g1, g2, g3]) (fun W h => ⟨rfl, h⟩)

set_option maxRecDepth 100000 in
theorem rof_round_ok (s : ByteArray) (hs : s.data.toList = [82, 79, 85, 78, 68]) (a : Int) (ha : I64 a) (d : Int) (hd : I64 d) (hdc : canB d = true) (p : Option Addr) (n c : Nat) (W : World) (l : List Bg) (a1 : Bg) (h1 : l[1]? = some a1) (hF : FitB W (.slice p n c) l) (hx : (sgl a1).toNum = .num d) :
   Calls Tryz.prog 30 #[.string s, .agg #[.int .i64 2, .int .i64 a, .string ⟨#[]⟩, .int .i64 0], .slice p n c] W fun e w' => e = .returned (.agg #[.int .i64 (toldR (rndB a (whN d)) (rndV a (whN d))).k, .int .i64 (toldR (rndB a (whN d)) (rndV a (whN d))).n, .string (toldR (rndB a (whN d)) (rndV a (whN d))).s, .int .i64 (toldR (rndB a (whN d)) (rndV a (whN d))).e]) ∧ Ext W w' := by
 have hl : s.toList = [82, 79, 85, 78, 68] := by rw [ByteArray.toList_eq]; exact hs
 have e0 : (s.toList == [78, 79, 84]) = false := by rw [hl]; decide
 have e1 : (s.toList == [76, 69, 78]) = false := by rw [hl]; decide
 have e2 : (s.toList == [65, 66, 83]) = false := by rw [hl]; decide
 have e3 : (s.toList == [70, 76, 79, 79, 82]) = false := by rw [hl]; decide
 have e4 : (s.toList == [83, 81, 82, 84]) = false := by rw [hl]; decide
 have e5 : (s.toList == [82, 79, 85, 78, 68]) = true := by rw [hl]; decide
 have e6 : (s.toList == [77, 79, 68]) = false := by rw [hl]; decide
 clear hs hl
 have cT : ∀ W, Calls Tryz.prog 17 #[.int .i64 10000] W fun r w' => r = .returned (.agg #[.int .i64 2, .int .i64 10000, .string ⟨#[]⟩, .int .i64 0]) ∧ Ext W w' := fun W => by
   have := rnum_any 10000 W
   rwa [mkNum_is (by decide)] at this
 have hn := hF.rd.len
 have hz := hF.z
 have hlt : 1 < l.length := (List.getElem?_eq_some_iff.1 h1).1
 have n1 : (n : Int) > 1 := by omega
 have n2 : (n : Int) ≤ 1500000 := by omega
 have cG := fun V (e : Ext W V) => rarg_any l 1 a1 h1 p n c V (hF.ext e)
 have ok1 : (sgl a1).ok := by have := hF.ok 1; rwa [sg_of h1] at this
 have cX := fun W => rtonum_any (sgl a1).k (sgl a1).n (sgl a1).s (sgl a1).e W (nm_of _ ok1).2
 rw [(nm_of _ ok1).1, hx] at cX
 simp only [V.dat] at cX
 generalize sgl a1 = v1 at *
 generalize v1.k = k1, v1.n = n1', v1.s = s1, v1.e = e1' at cG cX
 clear hn hz hlt hF h1 hx ok1
 have cW := fun W => rwhole_any d hd hdc W
 have hwb : -1000000000000000 ≤ whN d ∧ whN d ≤ 1000000000000000 := by obtain ⟨i1, i2⟩ := hd; unfold whN; omega
 obtain ⟨q, hq⟩ : ∃ q, whN d = q := ⟨_, rfl⟩
 rw [hq] at cW hwb ⊢
 obtain ⟨q1, q2⟩ := hwb
 have cR := fun W => rround_any a q ha W
 have cO := fun W => rtold14_any (rndV a q) (rndB a q) W
 generalize toldR (rndB a q) (rndV a q) = v at *
 generalize rndV a q = y at *
 generalize rndB a q = yb at *
 clear ha hd hdc hq
 go_enter Tryz.func30, Tryz.ntmps30
 go_wp2_with fail
 refine (cT _).mono ?_
 rintro e w1 ⟨rfl, E1⟩
 have H1 : Hid (Ext W w1 ∧ Blk w1 W.heap.size (.int .i64 2) (.int .i64 a) (.string ⟨#[]⟩) (.int .i64 0) ∧ Blk w1 (W.heap.size + 1) (.int .i64 0) (.int .i64 0) (.string ⟨#[]⟩) (.int .i64 0)) := ⟨(((Ext.refl _).alloc _).alloc _).trans E1, blk_top rfl (((Ext.refl _).alloc _).trans E1), blk_top (by simp) E1⟩
 clear E1
 have HW : Hid (W.heap.size + 1 < w1.heap.size) := H1.out.2.2.1
 go_wp2_with fail
 refine (cG _ (H1.out.1.alloc _)).mono ?_
 rintro e w2 ⟨rfl, E2⟩
 have H2 : Hid (Ext W w2 ∧ Blk w2 W.heap.size (.int .i64 2) (.int .i64 a) (.string ⟨#[]⟩) (.int .i64 0) ∧ Blk w2 (W.heap.size + 1) (.int .i64 0) (.int .i64 0) (.string ⟨#[]⟩) (.int .i64 0) ∧ Blk w2 w1.heap.size (.int .i64 2) (.int .i64 10000) (.string ⟨#[]⟩) (.int .i64 0)) := ⟨(H1.out.1).trans (((Ext.refl _).alloc _).trans E2), (H1.out.2.1).ext (((Ext.refl _).alloc _).trans E2), (H1.out.2.2).ext (((Ext.refl _).alloc _).trans E2), blk_top (by simp) E2⟩
 clear E2
 go_wp2_with fail
 refine (cX _).mono ?_
 rintro e w3 ⟨rfl, E3⟩
 have H3 : Hid (Ext W w3 ∧ Blk w3 W.heap.size (.int .i64 2) (.int .i64 a) (.string ⟨#[]⟩) (.int .i64 0) ∧ Blk w3 (W.heap.size + 1) (.int .i64 0) (.int .i64 0) (.string ⟨#[]⟩) (.int .i64 0) ∧ Blk w3 w1.heap.size (.int .i64 2) (.int .i64 10000) (.string ⟨#[]⟩) (.int .i64 0)) := ⟨(H2.out.1).trans (E3), (H2.out.2.1).ext (E3), (H2.out.2.2.1).ext (E3), (H2.out.2.2.2).ext (E3)⟩
 clear E3
 obtain ⟨zd, ⟨d0, d1, d2, d3⟩, df0, df1, df2, df3⟩ := H3.out.2.2.2
 go_upto_region 17 with fail
 have H4 : Hid (Ext W ((((w3.setCell ⟨w1.heap.size, 0, none⟩ (.int .i64 2)).setCell ⟨w1.heap.size, 1, none⟩ (.int .i64 d)).setCell ⟨w1.heap.size, 2, none⟩ (.string ⟨#[]⟩)).setCell ⟨w1.heap.size, 3, none⟩ (.int .i64 0)) ∧ Blk ((((w3.setCell ⟨w1.heap.size, 0, none⟩ (.int .i64 2)).setCell ⟨w1.heap.size, 1, none⟩ (.int .i64 d)).setCell ⟨w1.heap.size, 2, none⟩ (.string ⟨#[]⟩)).setCell ⟨w1.heap.size, 3, none⟩ (.int .i64 0)) W.heap.size (.int .i64 2) (.int .i64 a) (.string ⟨#[]⟩) (.int .i64 0) ∧ Blk ((((w3.setCell ⟨w1.heap.size, 0, none⟩ (.int .i64 2)).setCell ⟨w1.heap.size, 1, none⟩ (.int .i64 d)).setCell ⟨w1.heap.size, 2, none⟩ (.string ⟨#[]⟩)).setCell ⟨w1.heap.size, 3, none⟩ (.int .i64 0)) (W.heap.size + 1) (.int .i64 0) (.int .i64 0) (.string ⟨#[]⟩) (.int .i64 0) ∧ Blk ((((w3.setCell ⟨w1.heap.size, 0, none⟩ (.int .i64 2)).setCell ⟨w1.heap.size, 1, none⟩ (.int .i64 d)).setCell ⟨w1.heap.size, 2, none⟩ (.string ⟨#[]⟩)).setCell ⟨w1.heap.size, 3, none⟩ (.int .i64 0)) w1.heap.size (.int .i64 2) (.int .i64 d) (.string ⟨#[]⟩) (.int .i64 0)) := ⟨(((H3.out.1.setCell (p := ⟨w1.heap.size, 0, none⟩) (by have := HW.out; show W.heap.size ≤ w1.heap.size; omega) _).setCell (p := ⟨w1.heap.size, 1, none⟩) (by have := HW.out; show W.heap.size ≤ w1.heap.size; omega) _).setCell (p := ⟨w1.heap.size, 2, none⟩) (by have := HW.out; show W.heap.size ≤ w1.heap.size; omega) _).setCell (p := ⟨w1.heap.size, 3, none⟩) (by have := HW.out; show W.heap.size ≤ w1.heap.size; omega) _, (H3.out.2.1).far (by have := HW.out; omega) _ _ _ _, (H3.out.2.2.1).far (by have := HW.out; omega) _ _ _ _, (H3.out.2.2.2).set _ _ _ _⟩
 clear zd d0 d1 d2 d3 df0 df1 df2 df3
 generalize (((w3.setCell ⟨w1.heap.size, 0, none⟩ (.int .i64 2)).setCell ⟨w1.heap.size, 1, none⟩ (.int .i64 d)).setCell ⟨w1.heap.size, 2, none⟩ (.string ⟨#[]⟩)).setCell ⟨w1.heap.size, 3, none⟩ (.int .i64 0) = w4 at *
 obtain ⟨zd, ⟨d0, d1, d2, d3⟩, df0, df1, df2, df3⟩ := H4.out.2.2.2
 go_upto_region 21 with fail
 clear zd d0 d1 d2 d3 df0 df1 df2 df3
 have mkS : Hid (∀ V, Ext w4 V → (V.cell? ⟨W.heap.size, 0, none⟩ = some (.int .i64 2) ∧ V.cell? ⟨W.heap.size, 1, none⟩ = some (.int .i64 a) ∧ V.cell? ⟨W.heap.size, 2, none⟩ = some (.string ⟨#[]⟩) ∧ V.cell? ⟨W.heap.size, 3, none⟩ = some (.int .i64 0)) ∧ V.cell? ⟨w1.heap.size, 0, none⟩ = some (.int .i64 2) ∧ V.cell? ⟨w1.heap.size, 1, none⟩ = some (.int .i64 d) ∧ V.cell? ⟨w1.heap.size, 2, none⟩ = some (.string ⟨#[]⟩) ∧ V.cell? ⟨w1.heap.size, 3, none⟩ = some (.int .i64 0)) := fun V e => ⟨(H4.out.2.1.ext e).2.1, (H4.out.2.2.2.ext e).2.1⟩
 refine wp_region_held_drew (S := (fun V => (V.cell? ⟨W.heap.size, 0, none⟩ = some (.int .i64 2) ∧ V.cell? ⟨W.heap.size, 1, none⟩ = some (.int .i64 a) ∧ V.cell? ⟨W.heap.size, 2, none⟩ = some (.string ⟨#[]⟩) ∧ V.cell? ⟨W.heap.size, 3, none⟩ = some (.int .i64 0)) ∧ V.cell? ⟨w1.heap.size, 0, none⟩ = some (.int .i64 2) ∧ V.cell? ⟨w1.heap.size, 1, none⟩ = some (.int .i64 d) ∧ V.cell? ⟨w1.heap.size, 2, none⟩ = some (.string ⟨#[]⟩) ∧ V.cell? ⟨w1.heap.size, 3, none⟩ = some (.int .i64 0))) (by kernel_rfl) ?_ (fun hHeld0 => ?_)
 · (refine mkS.out _ ?_; ((with_reducible (repeat (first | assumption | exact Ext.refl _ | apply Ext.alloc | apply Ext.drew | apply Ext.drewN))); done))
 refine wpAnyH_take (i := 0) (oi := ⟨some 75, .fieldAddr 25 (.tmp 4) 1, 0, "ref.go:106", #[], none⟩) (v := ?_) rfl (by kernel_rfl) (by kernel_rfl) (by kernel_rfl) (fun _ _ _ h => h) (Or.inl ⟨by rfl, ?_⟩) (by assumption) ?_
 rotate_left
 · intro w hSw; (try dsimp only at hSw); first | (go_simp; done) | (go_simp; with_reducible rfl)
 try simp only [Act.put, List.setIfInBounds_toArray, List.set_cons_zero, List.set_cons_succ]
 refine wpAnyH_take (i := 1) (oi := ⟨some 76, .load 2 (.tmp 75), 2, "ref.go:106", #[⟨0, .data⟩], none⟩) (v := ?_) rfl (by kernel_rfl) (by kernel_rfl) (by kernel_rfl) (fun _ _ _ h => h) (Or.inl ⟨by rfl, ?_⟩) (by assumption) ?_
 rotate_left
 · intro w hSw; (try dsimp only at hSw); first | (go_simp; done) | (go_simp; with_reducible rfl)
 try simp only [Act.put, List.setIfInBounds_toArray, List.set_cons_zero, List.set_cons_succ]
 refine wpAnyH_take (i := 2) (oi := ⟨some 77, .fieldAddr 25 (.tmp 11) 1, 0, "ref.go:106", #[], none⟩) (v := ?_) rfl (by kernel_rfl) (by kernel_rfl) (by kernel_rfl) (fun _ _ _ h => h) (Or.inl ⟨by rfl, ?_⟩) (by assumption) ?_
 rotate_left
 · intro w hSw; (try dsimp only at hSw); first | (go_simp; done) | (go_simp; with_reducible rfl)
 try simp only [Act.put, List.setIfInBounds_toArray, List.set_cons_zero, List.set_cons_succ]
 refine wpAnyH_take (i := 3) (oi := ⟨some 78, .load 2 (.tmp 77), 2, "ref.go:106", #[⟨2, .data⟩], none⟩) (v := ?_) rfl (by kernel_rfl) (by kernel_rfl) (by kernel_rfl) (fun _ _ _ h => h) (Or.inl ⟨by rfl, ?_⟩) (by assumption) ?_
 rotate_left
 · intro w hSw; (try dsimp only at hSw); first | (go_simp; done) | (go_simp; with_reducible rfl)
 try simp only [Act.put, List.setIfInBounds_toArray, List.set_cons_zero, List.set_cons_succ]
 refine wpAnyH_ready (rs := [4]) (by kernel_rfl) (by simp) ?_
 refine AllReadyH.cons (o := ⟨some 79, .call { callee := .value (.func 46), args := #[.tmp 78], argTypes := #[2] }, 2, "ref.go:106", #[⟨3, .data⟩], none⟩) rfl (fun K hK => ?_) AllReadyH.nil
 go_simp
 (go_at_call 46; refine Calls.mono (cW _) ?_; rintro e y1 ⟨rfl, E10⟩; have X1 : Ext w4 y1 := Ext.trans (by with_reducible repeat (first | assumption | exact Ext.refl _ | apply Ext.alloc | apply Ext.drew | apply Ext.drewN)) E10)
 try go_wp2_with fail
 refine hK.out _ _ ?_ (fun hHeld1 => ?_)
 · (try dsimp only); (refine mkS.out _ ?_; ((with_reducible (repeat (first | assumption | exact Ext.refl _ | apply Ext.alloc | apply Ext.drew | apply Ext.drewN))); done))
 clear hK K hHeld0
 try simp only [Act.put, List.setIfInBounds_toArray, List.set_cons_zero, List.set_cons_succ]
 refine wpAnyH_ready (rs := [5]) (by kernel_rfl) (by simp) ?_
 refine AllReadyH.cons (o := ⟨some 80, .call { callee := .value (.func 55), args := #[.tmp 76, .tmp 79], argTypes := #[2, 3] }, 58, "ref.go:106", #[⟨1, .data⟩, ⟨4, .data⟩, ⟨4, .chain⟩], none⟩) rfl (fun K hK => ?_) AllReadyH.nil
 go_simp
 (go_at_call 55; refine Calls.mono (cR _) ?_; rintro e y2 ⟨rfl, E20⟩; have X2 : Ext w4 y2 := Ext.trans (by with_reducible repeat (first | assumption | exact Ext.refl _ | apply Ext.alloc | apply Ext.drew | apply Ext.drewN)) E20)
 try go_wp2_with fail
 refine hK.out _ _ ?_ (fun hHeld2 => ?_)
 · (try dsimp only); (refine mkS.out _ ?_; ((with_reducible (repeat (first | assumption | exact Ext.refl _ | apply Ext.alloc | apply Ext.drew | apply Ext.drewN))); done))
 clear hK K hHeld1
 try simp only [Act.put, List.setIfInBounds_toArray, List.set_cons_zero, List.set_cons_succ]
 refine wpAnyH_take (i := 6) (oi := ⟨some 74, .move (.tmp 80), 58, "ref.go:106", #[⟨5, .data⟩], none⟩) (v := ?_) rfl (by kernel_rfl) (by kernel_rfl) (by kernel_rfl) (fun _ _ _ h => h) (Or.inl ⟨by rfl, ?_⟩) (by assumption) ?_
 rotate_left
 · intro w hSw; (try dsimp only at hSw); first | (go_simp; done) | (go_simp; with_reducible rfl)
 try simp only [Act.put, List.setIfInBounds_toArray, List.set_cons_zero, List.set_cons_succ]
 refine wpAnyH_take (i := 7) (oi := ⟨some 81, .extract (.tmp 74) 0, 2, "ref.go:106", #[⟨6, .data⟩], none⟩) (v := ?_) rfl (by kernel_rfl) (by kernel_rfl) (by kernel_rfl) (fun _ _ _ h => h) (Or.inl ⟨by rfl, ?_⟩) (by assumption) ?_
 rotate_left
 · intro w hSw; (try dsimp only at hSw); first | (go_simp; done) | (go_simp; with_reducible rfl)
 try simp only [Act.put, List.setIfInBounds_toArray, List.set_cons_zero, List.set_cons_succ]
 refine wpAnyH_take (i := 8) (oi := ⟨some 82, .extract (.tmp 74) 1, 4, "ref.go:106", #[⟨6, .data⟩, { on := 9, ground := Ground.gcOnly Departure.lateStores }], none⟩) (v := ?_) rfl (by kernel_rfl) (by kernel_rfl) (by kernel_rfl) (fun _ _ _ h => h) (Or.inl ⟨by rfl, ?_⟩) (by assumption) ?_
 rotate_left
 · intro w hSw; (try dsimp only at hSw); first | (go_simp; done) | (go_simp; with_reducible rfl)
 try simp only [Act.put, List.setIfInBounds_toArray, List.set_cons_zero, List.set_cons_succ]
 refine wpAnyH_take (i := 9) (oi := ⟨some 12, .assign (.tmp 81), 2, "ref.go:106", #[⟨7, .data⟩, ⟨5, .chain⟩, ⟨0, .phase⟩, ⟨1, .phase⟩, ⟨2, .phase⟩, ⟨3, .phase⟩, ⟨4, .phase⟩, ⟨5, .phase⟩, ⟨6, .phase⟩, ⟨7, .phase⟩, { on := 8, ground := Ground.textOnly Departure.lateStores }], none⟩) (v := ?_) rfl (by kernel_rfl) (by kernel_rfl) (by kernel_rfl) (fun _ _ _ h => h) (Or.inl ⟨by rfl, ?_⟩) (by assumption) ?_
 rotate_left
 · intro w hSw; (try dsimp only at hSw); first | (go_simp; done) | (go_simp; with_reducible rfl)
 try simp only [Act.put, List.setIfInBounds_toArray, List.set_cons_zero, List.set_cons_succ]
 refine wpAnyH_take (i := 10) (oi := ⟨some 13, .assign (.tmp 82), 4, "ref.go:106", #[⟨8, .data⟩, ⟨9, .chain⟩, ⟨0, .phase⟩, ⟨1, .phase⟩, ⟨2, .phase⟩, ⟨3, .phase⟩, ⟨4, .phase⟩, ⟨5, .phase⟩, ⟨6, .phase⟩, ⟨7, .phase⟩, ⟨8, .phase⟩, ⟨9, .phase⟩], none⟩) (v := ?_) rfl (by kernel_rfl) (by kernel_rfl) (by kernel_rfl) (fun _ _ _ h => h) (Or.inl ⟨by rfl, ?_⟩) (by assumption) ?_
 rotate_left
 · intro w hSw; (try dsimp only at hSw); first | (go_simp; done) | (go_simp; with_reducible rfl)
 try simp only [Act.put, List.setIfInBounds_toArray, List.set_cons_zero, List.set_cons_succ]
 refine wpAnyH_done (by kernel_rfl) ?_ _
 go_wp2_with fail
 refine (cO _).mono ?_
 rintro e w5 ⟨rfl, E5⟩
 have X5 : Ext w4 w5 := Ext.trans (by with_reducible repeat (first | assumption | exact Ext.refl _ | apply Ext.alloc | apply Ext.drew | apply Ext.drewN)) E5
 have H5 : Hid (Ext W w5 ∧ Blk w5 (W.heap.size + 1) (.int .i64 0) (.int .i64 0) (.string ⟨#[]⟩) (.int .i64 0)) := ⟨H4.out.1.trans X5, (H4.out.2.2.1).ext X5⟩
 clear E5 X5
 obtain ⟨zb, ⟨b0, b1, b2, b3⟩, f0, f1, f2, f3⟩ := H5.out.2
 go_wp2_with fail
 exact fin4 b0 b1 b2 b3 rfl (by simp) H5.out.1 (fun W g0 g1 g2 g3 => by simp [results, Tryz.results30, go_sem, g0, g1, g2, g3]) (fun W h => ⟨rfl, h⟩)

set_option maxRecDepth 100000 in
theorem rof_mod_zero (s : ByteArray) (hs : s.data.toList = [77, 79, 68]) (a : Int) (p : Option Addr) (n c : Nat) (W : World) (l : List Bg) (a1 : Bg) (h1 : l[1]? = some a1) (hF : FitB W (.slice p n c) l) (hx : (sgl a1).toNum = .num 0) :
   Calls Tryz.prog 30 #[.string s, .agg #[.int .i64 2, .int .i64 a, .string ⟨#[]⟩, .int .i64 0], .slice p n c] W fun e w' => e = .returned (.agg #[.int .i64 (V.err 3).k, .int .i64 (V.err 3).n, .string (V.err 3).s, .int .i64 (V.err 3).e]) ∧ Ext W w' := by
 have hl : s.toList = [77, 79, 68] := by rw [ByteArray.toList_eq]; exact hs
 have e0 : (s.toList == [78, 79, 84]) = false := by rw [hl]; decide
 have e1 : (s.toList == [76, 69, 78]) = false := by rw [hl]; decide
 have e2 : (s.toList == [65, 66, 83]) = false := by rw [hl]; decide
 have e3 : (s.toList == [70, 76, 79, 79, 82]) = false := by rw [hl]; decide
 have e4 : (s.toList == [83, 81, 82, 84]) = false := by rw [hl]; decide
 have e5 : (s.toList == [82, 79, 85, 78, 68]) = false := by rw [hl]; decide
 have e6 : (s.toList == [77, 79, 68]) = true := by rw [hl]; decide
 clear hs hl
 have cT : ∀ W, Calls Tryz.prog 17 #[.int .i64 10000] W fun r w' => r = .returned (.agg #[.int .i64 2, .int .i64 10000, .string ⟨#[]⟩, .int .i64 0]) ∧ Ext W w' := fun W => by
   have := rnum_any 10000 W
   rwa [mkNum_is (by decide)] at this
 have hn := hF.rd.len
 have hz := hF.z
 have hlt : 1 < l.length := (List.getElem?_eq_some_iff.1 h1).1
 have n1 : (n : Int) > 1 := by omega
 have n2 : (n : Int) ≤ 1500000 := by omega
 have cG := fun V (e : Ext W V) => rarg_any l 1 a1 h1 p n c V (hF.ext e)
 have ok1 : (sgl a1).ok := by have := hF.ok 1; rwa [sg_of h1] at this
 have cX := fun W => rtonum_any (sgl a1).k (sgl a1).n (sgl a1).s (sgl a1).e W (nm_of _ ok1).2
 rw [(nm_of _ ok1).1, hx] at cX
 simp only [V.dat] at cX
 generalize sgl a1 = v1 at *
 generalize v1.k = k1, v1.n = n1', v1.s = s1, v1.e = e1' at cG cX
 clear hn hz hlt hF h1 hx ok1
 have cE := fun W => rerr_at 3 (by decide) W
 have t0 : ((0 : Int) == 0) = true := rfl
 go_enter Tryz.func30, Tryz.ntmps30
 go_wp2_with fail
 refine (cT _).mono ?_
 rintro e w1 ⟨rfl, E1⟩
 have H1 : Hid (Ext W w1 ∧ Blk w1 W.heap.size (.int .i64 2) (.int .i64 a) (.string ⟨#[]⟩) (.int .i64 0) ∧ Blk w1 (W.heap.size + 1) (.int .i64 0) (.int .i64 0) (.string ⟨#[]⟩) (.int .i64 0)) := ⟨(((Ext.refl _).alloc _).alloc _).trans E1, blk_top rfl (((Ext.refl _).alloc _).trans E1), blk_top (by simp) E1⟩
 clear E1
 have HW : Hid (W.heap.size + 1 < w1.heap.size) := H1.out.2.2.1
 go_wp2_with fail
 refine (cG _ (H1.out.1.alloc _)).mono ?_
 rintro e w2 ⟨rfl, E2⟩
 have H2 : Hid (Ext W w2 ∧ Blk w2 W.heap.size (.int .i64 2) (.int .i64 a) (.string ⟨#[]⟩) (.int .i64 0) ∧ Blk w2 (W.heap.size + 1) (.int .i64 0) (.int .i64 0) (.string ⟨#[]⟩) (.int .i64 0) ∧ Blk w2 w1.heap.size (.int .i64 2) (.int .i64 10000) (.string ⟨#[]⟩) (.int .i64 0)) := ⟨(H1.out.1).trans (((Ext.refl _).alloc _).trans E2), (H1.out.2.1).ext (((Ext.refl _).alloc _).trans E2), (H1.out.2.2).ext (((Ext.refl _).alloc _).trans E2), blk_top (by simp) E2⟩
 clear E2
 go_wp2_with fail
 refine (cX _).mono ?_
 rintro e w3 ⟨rfl, E3⟩
 have H3 : Hid (Ext W w3 ∧ Blk w3 W.heap.size (.int .i64 2) (.int .i64 a) (.string ⟨#[]⟩) (.int .i64 0) ∧ Blk w3 (W.heap.size + 1) (.int .i64 0) (.int .i64 0) (.string ⟨#[]⟩) (.int .i64 0) ∧ Blk w3 w1.heap.size (.int .i64 2) (.int .i64 10000) (.string ⟨#[]⟩) (.int .i64 0)) := ⟨(H2.out.1).trans (E3), (H2.out.2.1).ext (E3), (H2.out.2.2.1).ext (E3), (H2.out.2.2.2).ext (E3)⟩
 clear E3
 obtain ⟨zd, ⟨d0, d1, d2, d3⟩, df0, df1, df2, df3⟩ := H3.out.2.2.2
 go_upto_region 17 with fail
 have H4 : Hid (Ext W ((((w3.setCell ⟨w1.heap.size, 0, none⟩ (.int .i64 2)).setCell ⟨w1.heap.size, 1, none⟩ (.int .i64 0)).setCell ⟨w1.heap.size, 2, none⟩ (.string ⟨#[]⟩)).setCell ⟨w1.heap.size, 3, none⟩ (.int .i64 0)) ∧ Blk ((((w3.setCell ⟨w1.heap.size, 0, none⟩ (.int .i64 2)).setCell ⟨w1.heap.size, 1, none⟩ (.int .i64 0)).setCell ⟨w1.heap.size, 2, none⟩ (.string ⟨#[]⟩)).setCell ⟨w1.heap.size, 3, none⟩ (.int .i64 0)) W.heap.size (.int .i64 2) (.int .i64 a) (.string ⟨#[]⟩) (.int .i64 0) ∧ Blk ((((w3.setCell ⟨w1.heap.size, 0, none⟩ (.int .i64 2)).setCell ⟨w1.heap.size, 1, none⟩ (.int .i64 0)).setCell ⟨w1.heap.size, 2, none⟩ (.string ⟨#[]⟩)).setCell ⟨w1.heap.size, 3, none⟩ (.int .i64 0)) (W.heap.size + 1) (.int .i64 0) (.int .i64 0) (.string ⟨#[]⟩) (.int .i64 0) ∧ Blk ((((w3.setCell ⟨w1.heap.size, 0, none⟩ (.int .i64 2)).setCell ⟨w1.heap.size, 1, none⟩ (.int .i64 0)).setCell ⟨w1.heap.size, 2, none⟩ (.string ⟨#[]⟩)).setCell ⟨w1.heap.size, 3, none⟩ (.int .i64 0)) w1.heap.size (.int .i64 2) (.int .i64 0) (.string ⟨#[]⟩) (.int .i64 0)) := ⟨(((H3.out.1.setCell (p := ⟨w1.heap.size, 0, none⟩) (by have := HW.out; show W.heap.size ≤ w1.heap.size; omega) _).setCell (p := ⟨w1.heap.size, 1, none⟩) (by have := HW.out; show W.heap.size ≤ w1.heap.size; omega) _).setCell (p := ⟨w1.heap.size, 2, none⟩) (by have := HW.out; show W.heap.size ≤ w1.heap.size; omega) _).setCell (p := ⟨w1.heap.size, 3, none⟩) (by have := HW.out; show W.heap.size ≤ w1.heap.size; omega) _, (H3.out.2.1).far (by have := HW.out; omega) _ _ _ _, (H3.out.2.2.1).far (by have := HW.out; omega) _ _ _ _, (H3.out.2.2.2).set _ _ _ _⟩
 clear zd d0 d1 d2 d3 df0 df1 df2 df3
 generalize (((w3.setCell ⟨w1.heap.size, 0, none⟩ (.int .i64 2)).setCell ⟨w1.heap.size, 1, none⟩ (.int .i64 0)).setCell ⟨w1.heap.size, 2, none⟩ (.string ⟨#[]⟩)).setCell ⟨w1.heap.size, 3, none⟩ (.int .i64 0) = w4 at *
 obtain ⟨zd, ⟨d0, d1, d2, d3⟩, df0, df1, df2, df3⟩ := H4.out.2.2.2
 go_wp2_with fail
 refine (cE _).mono ?_
 rintro e w5 ⟨rfl, E5⟩
 have H5 : Hid (Ext W w5 ∧ Blk w5 W.heap.size (.int .i64 2) (.int .i64 a) (.string ⟨#[]⟩) (.int .i64 0) ∧ Blk w5 (W.heap.size + 1) (.int .i64 0) (.int .i64 0) (.string ⟨#[]⟩) (.int .i64 0) ∧ Blk w5 w1.heap.size (.int .i64 2) (.int .i64 0) (.string ⟨#[]⟩) (.int .i64 0)) := ⟨(H4.out.1).trans (E5), (H4.out.2.1).ext (E5), (H4.out.2.2.1).ext (E5), (H4.out.2.2.2).ext (E5)⟩
 clear E5
 clear zd d0 d1 d2 d3 df0 df1 df2 df3
 obtain ⟨zb, ⟨b0, b1, b2, b3⟩, bf0, bf1, bf2, bf3⟩ := H5.out.2.2.1
 go_wp2_with fail
 exact fin4 b0 b1 b2 b3 rfl (by simp) H5.out.1 (fun W g0 g1 g2 g3 => by simp [results, Tryz.results30, go_sem, g0, g1, g2, g3]) (fun W h => ⟨rfl, h⟩)

set_option maxRecDepth 100000 in
theorem rof_mod_ok (s : ByteArray) (hs : s.data.toList = [77, 79, 68]) (a : Int) (ha : I64 a) (d : Int) (hd : I64 d) (hd0 : d ≠ 0) (p : Option Addr) (n c : Nat) (W : World) (l : List Bg) (a1 : Bg) (h1 : l[1]? = some a1) (hF : FitB W (.slice p n c) l) (hx : (sgl a1).toNum = .num d) :
   Calls Tryz.prog 30 #[.string s, .agg #[.int .i64 2, .int .i64 a, .string ⟨#[]⟩, .int .i64 0], .slice p n c] W fun e w' => e = .returned (.agg #[.int .i64 (toldR (modB a d) (modV a d)).k, .int .i64 (toldR (modB a d) (modV a d)).n, .string (toldR (modB a d) (modV a d)).s, .int .i64 (toldR (modB a d) (modV a d)).e]) ∧ Ext W w' := by
 have hl : s.toList = [77, 79, 68] := by rw [ByteArray.toList_eq]; exact hs
 have e0 : (s.toList == [78, 79, 84]) = false := by rw [hl]; decide
 have e1 : (s.toList == [76, 69, 78]) = false := by rw [hl]; decide
 have e2 : (s.toList == [65, 66, 83]) = false := by rw [hl]; decide
 have e3 : (s.toList == [70, 76, 79, 79, 82]) = false := by rw [hl]; decide
 have e4 : (s.toList == [83, 81, 82, 84]) = false := by rw [hl]; decide
 have e5 : (s.toList == [82, 79, 85, 78, 68]) = false := by rw [hl]; decide
 have e6 : (s.toList == [77, 79, 68]) = true := by rw [hl]; decide
 clear hs hl
 have cT : ∀ W, Calls Tryz.prog 17 #[.int .i64 10000] W fun r w' => r = .returned (.agg #[.int .i64 2, .int .i64 10000, .string ⟨#[]⟩, .int .i64 0]) ∧ Ext W w' := fun W => by
   have := rnum_any 10000 W
   rwa [mkNum_is (by decide)] at this
 have hn := hF.rd.len
 have hz := hF.z
 have hlt : 1 < l.length := (List.getElem?_eq_some_iff.1 h1).1
 have n1 : (n : Int) > 1 := by omega
 have n2 : (n : Int) ≤ 1500000 := by omega
 have cG := fun V (e : Ext W V) => rarg_any l 1 a1 h1 p n c V (hF.ext e)
 have ok1 : (sgl a1).ok := by have := hF.ok 1; rwa [sg_of h1] at this
 have cX := fun W => rtonum_any (sgl a1).k (sgl a1).n (sgl a1).s (sgl a1).e W (nm_of _ ok1).2
 rw [(nm_of _ ok1).1, hx] at cX
 simp only [V.dat] at cX
 generalize sgl a1 = v1 at *
 generalize v1.k = k1, v1.n = n1', v1.s = s1, v1.e = e1' at cG cX
 clear hn hz hlt hF h1 hx ok1
 have cM := fun W => (rmod_any a d ha hd W).mono (R' := fun e w' => e = .returned (.tuple #[.int .i64 (modV a d), .bool (modB a d)]) ∧ Ext W w') (fun e w' h => ⟨h.1, by rw [h.2]; exact Ext.refl _⟩)
 have cO := fun W => rtold14_any (modV a d) (modB a d) W
 generalize toldR (modB a d) (modV a d) = v at *
 generalize modV a d = y at *
 generalize modB a d = yb at *
 have t0 : (d == 0) = false := by simp [hd0]
 clear ha hd hd0
 go_enter Tryz.func30, Tryz.ntmps30
 go_wp2_with fail
 refine (cT _).mono ?_
 rintro e w1 ⟨rfl, E1⟩
 have H1 : Hid (Ext W w1 ∧ Blk w1 W.heap.size (.int .i64 2) (.int .i64 a) (.string ⟨#[]⟩) (.int .i64 0) ∧ Blk w1 (W.heap.size + 1) (.int .i64 0) (.int .i64 0) (.string ⟨#[]⟩) (.int .i64 0)) := ⟨(((Ext.refl _).alloc _).alloc _).trans E1, blk_top rfl (((Ext.refl _).alloc _).trans E1), blk_top (by simp) E1⟩
 clear E1
 have HW : Hid (W.heap.size + 1 < w1.heap.size) := H1.out.2.2.1
 go_wp2_with fail
 refine (cG _ (H1.out.1.alloc _)).mono ?_
 rintro e w2 ⟨rfl, E2⟩
 have H2 : Hid (Ext W w2 ∧ Blk w2 W.heap.size (.int .i64 2) (.int .i64 a) (.string ⟨#[]⟩) (.int .i64 0) ∧ Blk w2 (W.heap.size + 1) (.int .i64 0) (.int .i64 0) (.string ⟨#[]⟩) (.int .i64 0) ∧ Blk w2 w1.heap.size (.int .i64 2) (.int .i64 10000) (.string ⟨#[]⟩) (.int .i64 0)) := ⟨(H1.out.1).trans (((Ext.refl _).alloc _).trans E2), (H1.out.2.1).ext (((Ext.refl _).alloc _).trans E2), (H1.out.2.2).ext (((Ext.refl _).alloc _).trans E2), blk_top (by simp) E2⟩
 clear E2
 go_wp2_with fail
 refine (cX _).mono ?_
 rintro e w3 ⟨rfl, E3⟩
 have H3 : Hid (Ext W w3 ∧ Blk w3 W.heap.size (.int .i64 2) (.int .i64 a) (.string ⟨#[]⟩) (.int .i64 0) ∧ Blk w3 (W.heap.size + 1) (.int .i64 0) (.int .i64 0) (.string ⟨#[]⟩) (.int .i64 0) ∧ Blk w3 w1.heap.size (.int .i64 2) (.int .i64 10000) (.string ⟨#[]⟩) (.int .i64 0)) := ⟨(H2.out.1).trans (E3), (H2.out.2.1).ext (E3), (H2.out.2.2.1).ext (E3), (H2.out.2.2.2).ext (E3)⟩
 clear E3
 obtain ⟨zd, ⟨d0, d1, d2, d3⟩, df0, df1, df2, df3⟩ := H3.out.2.2.2
 go_upto_region 17 with fail
 have H4 : Hid (Ext W ((((w3.setCell ⟨w1.heap.size, 0, none⟩ (.int .i64 2)).setCell ⟨w1.heap.size, 1, none⟩ (.int .i64 d)).setCell ⟨w1.heap.size, 2, none⟩ (.string ⟨#[]⟩)).setCell ⟨w1.heap.size, 3, none⟩ (.int .i64 0)) ∧ Blk ((((w3.setCell ⟨w1.heap.size, 0, none⟩ (.int .i64 2)).setCell ⟨w1.heap.size, 1, none⟩ (.int .i64 d)).setCell ⟨w1.heap.size, 2, none⟩ (.string ⟨#[]⟩)).setCell ⟨w1.heap.size, 3, none⟩ (.int .i64 0)) W.heap.size (.int .i64 2) (.int .i64 a) (.string ⟨#[]⟩) (.int .i64 0) ∧ Blk ((((w3.setCell ⟨w1.heap.size, 0, none⟩ (.int .i64 2)).setCell ⟨w1.heap.size, 1, none⟩ (.int .i64 d)).setCell ⟨w1.heap.size, 2, none⟩ (.string ⟨#[]⟩)).setCell ⟨w1.heap.size, 3, none⟩ (.int .i64 0)) (W.heap.size + 1) (.int .i64 0) (.int .i64 0) (.string ⟨#[]⟩) (.int .i64 0) ∧ Blk ((((w3.setCell ⟨w1.heap.size, 0, none⟩ (.int .i64 2)).setCell ⟨w1.heap.size, 1, none⟩ (.int .i64 d)).setCell ⟨w1.heap.size, 2, none⟩ (.string ⟨#[]⟩)).setCell ⟨w1.heap.size, 3, none⟩ (.int .i64 0)) w1.heap.size (.int .i64 2) (.int .i64 d) (.string ⟨#[]⟩) (.int .i64 0)) := ⟨(((H3.out.1.setCell (p := ⟨w1.heap.size, 0, none⟩) (by have := HW.out; show W.heap.size ≤ w1.heap.size; omega) _).setCell (p := ⟨w1.heap.size, 1, none⟩) (by have := HW.out; show W.heap.size ≤ w1.heap.size; omega) _).setCell (p := ⟨w1.heap.size, 2, none⟩) (by have := HW.out; show W.heap.size ≤ w1.heap.size; omega) _).setCell (p := ⟨w1.heap.size, 3, none⟩) (by have := HW.out; show W.heap.size ≤ w1.heap.size; omega) _, (H3.out.2.1).far (by have := HW.out; omega) _ _ _ _, (H3.out.2.2.1).far (by have := HW.out; omega) _ _ _ _, (H3.out.2.2.2).set _ _ _ _⟩
 clear zd d0 d1 d2 d3 df0 df1 df2 df3
 generalize (((w3.setCell ⟨w1.heap.size, 0, none⟩ (.int .i64 2)).setCell ⟨w1.heap.size, 1, none⟩ (.int .i64 d)).setCell ⟨w1.heap.size, 2, none⟩ (.string ⟨#[]⟩)).setCell ⟨w1.heap.size, 3, none⟩ (.int .i64 0) = w4 at *
 obtain ⟨zd, ⟨d0, d1, d2, d3⟩, df0, df1, df2, df3⟩ := H4.out.2.2.2
 obtain ⟨za, ⟨a0, a1, a2, a3⟩, af0, af1, af2, af3⟩ := H4.out.2.1
 go_wp2_with fail
 refine (cM _).mono ?_
 rintro e w5 ⟨rfl, E5⟩
 have H5 : Hid (Ext W w5 ∧ Blk w5 W.heap.size (.int .i64 2) (.int .i64 a) (.string ⟨#[]⟩) (.int .i64 0) ∧ Blk w5 (W.heap.size + 1) (.int .i64 0) (.int .i64 0) (.string ⟨#[]⟩) (.int .i64 0) ∧ Blk w5 w1.heap.size (.int .i64 2) (.int .i64 d) (.string ⟨#[]⟩) (.int .i64 0)) := ⟨(H4.out.1).trans (E5), (H4.out.2.1).ext (E5), (H4.out.2.2.1).ext (E5), (H4.out.2.2.2).ext (E5)⟩
 clear E5
 clear zd d0 d1 d2 d3 df0 df1 df2 df3 za a0 a1 a2 a3 af0 af1 af2 af3
 go_wp2_with fail
 refine (cO _).mono ?_
 rintro e w6 ⟨rfl, E6⟩
 have H6 : Hid (Ext W w6 ∧ Blk w6 W.heap.size (.int .i64 2) (.int .i64 a) (.string ⟨#[]⟩) (.int .i64 0) ∧ Blk w6 (W.heap.size + 1) (.int .i64 0) (.int .i64 0) (.string ⟨#[]⟩) (.int .i64 0) ∧ Blk w6 w1.heap.size (.int .i64 2) (.int .i64 d) (.string ⟨#[]⟩) (.int .i64 0)) := ⟨(H5.out.1).trans (E6), (H5.out.2.1).ext (E6), (H5.out.2.2.1).ext (E6), (H5.out.2.2.2).ext (E6)⟩
 clear E6
 obtain ⟨zb, ⟨b0, b1, b2, b3⟩, bf0, bf1, bf2, bf3⟩ := H6.out.2.2.1
 go_wp2_with fail
 exact fin4 b0 b1 b2 b3 rfl (by simp) H6.out.1 (fun W g0 g1 g2 g3 => by simp [results, Tryz.results30, go_sem, g0, g1, g2, g3]) (fun W h => ⟨rfl, h⟩)

set_option maxRecDepth 100000 in
theorem rof_left_neg (s : ByteArray) (hs : s.data.toList = [76, 69, 70, 84]) (t : ByteArray) (d : Int) (hd0 : d < 0) (p : Option Addr) (n c : Nat) (W : World) (l : List Bg) (a1 : Bg) (h1 : l[1]? = some a1) (hF : FitB W (.slice p n c) l) (hx : (sgl a1).toNum = .num d) :
   Calls Tryz.prog 30 #[.string s, .agg #[.int .i64 3, .int .i64 0, .string t, .int .i64 0], .slice p n c] W fun e w' => e = .returned (.agg #[.int .i64 (V.err 2).k, .int .i64 (V.err 2).n, .string (V.err 2).s, .int .i64 (V.err 2).e]) ∧ Ext W w' := by
 have hl : s.toList = [76, 69, 70, 84] := by rw [ByteArray.toList_eq]; exact hs
 have e0 : (s.toList == [78, 79, 84]) = false := by rw [hl]; decide
 have e1 : (s.toList == [76, 69, 78]) = false := by rw [hl]; decide
 have e2 : (s.toList == [65, 66, 83]) = false := by rw [hl]; decide
 have e3 : (s.toList == [70, 76, 79, 79, 82]) = false := by rw [hl]; decide
 have e4 : (s.toList == [83, 81, 82, 84]) = false := by rw [hl]; decide
 have e5 : (s.toList == [82, 79, 85, 78, 68]) = false := by rw [hl]; decide
 have e6 : (s.toList == [77, 79, 68]) = false := by rw [hl]; decide
 clear hs hl
 have cT : ∀ W, Calls Tryz.prog 17 #[.int .i64 10000] W fun r w' => r = .returned (.agg #[.int .i64 2, .int .i64 10000, .string ⟨#[]⟩, .int .i64 0]) ∧ Ext W w' := fun W => by
   have := rnum_any 10000 W
   rwa [mkNum_is (by decide)] at this
 have hn := hF.rd.len
 have hz := hF.z
 have hlt : 1 < l.length := (List.getElem?_eq_some_iff.1 h1).1
 have n1 : (n : Int) > 1 := by omega
 have n2 : (n : Int) ≤ 1500000 := by omega
 have cG := fun V (e : Ext W V) => rarg_any l 1 a1 h1 p n c V (hF.ext e)
 have ok1 : (sgl a1).ok := by have := hF.ok 1; rwa [sg_of h1] at this
 have cX := fun W => rtonum_any (sgl a1).k (sgl a1).n (sgl a1).s (sgl a1).e W (nm_of _ ok1).2
 rw [(nm_of _ ok1).1, hx] at cX
 simp only [V.dat] at cX
 generalize sgl a1 = v1 at *
 generalize v1.k = k1, v1.n = n1', v1.s = s1, v1.e = e1' at cG cX
 clear hn hz hlt hF h1 hx ok1
 have cE := fun W => rerr_at 2 (by decide) W
 go_enter Tryz.func30, Tryz.ntmps30
 go_wp2_with fail
 refine (cT _).mono ?_
 rintro e w1 ⟨rfl, E1⟩
 have H1 : Hid (Ext W w1 ∧ Blk w1 W.heap.size (.int .i64 3) (.int .i64 0) (.string t) (.int .i64 0) ∧ Blk w1 (W.heap.size + 1) (.int .i64 0) (.int .i64 0) (.string ⟨#[]⟩) (.int .i64 0)) := ⟨(((Ext.refl _).alloc _).alloc _).trans E1, blk_top rfl (((Ext.refl _).alloc _).trans E1), blk_top (by simp) E1⟩
 clear E1
 have HW : Hid (W.heap.size + 1 < w1.heap.size) := H1.out.2.2.1
 go_wp2_with fail
 refine (cG _ (H1.out.1.alloc _)).mono ?_
 rintro e w2 ⟨rfl, E2⟩
 have H2 : Hid (Ext W w2 ∧ Blk w2 W.heap.size (.int .i64 3) (.int .i64 0) (.string t) (.int .i64 0) ∧ Blk w2 (W.heap.size + 1) (.int .i64 0) (.int .i64 0) (.string ⟨#[]⟩) (.int .i64 0) ∧ Blk w2 w1.heap.size (.int .i64 2) (.int .i64 10000) (.string ⟨#[]⟩) (.int .i64 0)) := ⟨(H1.out.1).trans (((Ext.refl _).alloc _).trans E2), (H1.out.2.1).ext (((Ext.refl _).alloc _).trans E2), (H1.out.2.2).ext (((Ext.refl _).alloc _).trans E2), blk_top (by simp) E2⟩
 clear E2
 go_wp2_with fail
 refine (cX _).mono ?_
 rintro e w3 ⟨rfl, E3⟩
 have H3 : Hid (Ext W w3 ∧ Blk w3 W.heap.size (.int .i64 3) (.int .i64 0) (.string t) (.int .i64 0) ∧ Blk w3 (W.heap.size + 1) (.int .i64 0) (.int .i64 0) (.string ⟨#[]⟩) (.int .i64 0) ∧ Blk w3 w1.heap.size (.int .i64 2) (.int .i64 10000) (.string ⟨#[]⟩) (.int .i64 0)) := ⟨(H2.out.1).trans (E3), (H2.out.2.1).ext (E3), (H2.out.2.2.1).ext (E3), (H2.out.2.2.2).ext (E3)⟩
 clear E3
 obtain ⟨zd, ⟨d0, d1, d2, d3⟩, df0, df1, df2, df3⟩ := H3.out.2.2.2
 go_upto_region 17 with fail
 have H4 : Hid (Ext W ((((w3.setCell ⟨w1.heap.size, 0, none⟩ (.int .i64 2)).setCell ⟨w1.heap.size, 1, none⟩ (.int .i64 d)).setCell ⟨w1.heap.size, 2, none⟩ (.string ⟨#[]⟩)).setCell ⟨w1.heap.size, 3, none⟩ (.int .i64 0)) ∧ Blk ((((w3.setCell ⟨w1.heap.size, 0, none⟩ (.int .i64 2)).setCell ⟨w1.heap.size, 1, none⟩ (.int .i64 d)).setCell ⟨w1.heap.size, 2, none⟩ (.string ⟨#[]⟩)).setCell ⟨w1.heap.size, 3, none⟩ (.int .i64 0)) W.heap.size (.int .i64 3) (.int .i64 0) (.string t) (.int .i64 0) ∧ Blk ((((w3.setCell ⟨w1.heap.size, 0, none⟩ (.int .i64 2)).setCell ⟨w1.heap.size, 1, none⟩ (.int .i64 d)).setCell ⟨w1.heap.size, 2, none⟩ (.string ⟨#[]⟩)).setCell ⟨w1.heap.size, 3, none⟩ (.int .i64 0)) (W.heap.size + 1) (.int .i64 0) (.int .i64 0) (.string ⟨#[]⟩) (.int .i64 0) ∧ Blk ((((w3.setCell ⟨w1.heap.size, 0, none⟩ (.int .i64 2)).setCell ⟨w1.heap.size, 1, none⟩ (.int .i64 d)).setCell ⟨w1.heap.size, 2, none⟩ (.string ⟨#[]⟩)).setCell ⟨w1.heap.size, 3, none⟩ (.int .i64 0)) w1.heap.size (.int .i64 2) (.int .i64 d) (.string ⟨#[]⟩) (.int .i64 0)) := ⟨(((H3.out.1.setCell (p := ⟨w1.heap.size, 0, none⟩) (by have := HW.out; show W.heap.size ≤ w1.heap.size; omega) _).setCell (p := ⟨w1.heap.size, 1, none⟩) (by have := HW.out; show W.heap.size ≤ w1.heap.size; omega) _).setCell (p := ⟨w1.heap.size, 2, none⟩) (by have := HW.out; show W.heap.size ≤ w1.heap.size; omega) _).setCell (p := ⟨w1.heap.size, 3, none⟩) (by have := HW.out; show W.heap.size ≤ w1.heap.size; omega) _, (H3.out.2.1).far (by have := HW.out; omega) _ _ _ _, (H3.out.2.2.1).far (by have := HW.out; omega) _ _ _ _, (H3.out.2.2.2).set _ _ _ _⟩
 clear zd d0 d1 d2 d3 df0 df1 df2 df3
 generalize (((w3.setCell ⟨w1.heap.size, 0, none⟩ (.int .i64 2)).setCell ⟨w1.heap.size, 1, none⟩ (.int .i64 d)).setCell ⟨w1.heap.size, 2, none⟩ (.string ⟨#[]⟩)).setCell ⟨w1.heap.size, 3, none⟩ (.int .i64 0) = w4 at *
 obtain ⟨zd, ⟨d0, d1, d2, d3⟩, df0, df1, df2, df3⟩ := H4.out.2.2.2
 go_wp2_with fail
 refine (cE _).mono ?_
 rintro e w5 ⟨rfl, E5⟩
 have H5 : Hid (Ext W w5 ∧ Blk w5 W.heap.size (.int .i64 3) (.int .i64 0) (.string t) (.int .i64 0) ∧ Blk w5 (W.heap.size + 1) (.int .i64 0) (.int .i64 0) (.string ⟨#[]⟩) (.int .i64 0) ∧ Blk w5 w1.heap.size (.int .i64 2) (.int .i64 d) (.string ⟨#[]⟩) (.int .i64 0)) := ⟨(H4.out.1).trans (E5), (H4.out.2.1).ext (E5), (H4.out.2.2.1).ext (E5), (H4.out.2.2.2).ext (E5)⟩
 clear E5
 clear zd d0 d1 d2 d3 df0 df1 df2 df3
 obtain ⟨zb, ⟨b0, b1, b2, b3⟩, bf0, bf1, bf2, bf3⟩ := H5.out.2.2.1
 go_wp2_with fail
 exact fin4 b0 b1 b2 b3 rfl (by simp) H5.out.1 (fun W g0 g1 g2 g3 => by simp [results, Tryz.results30, go_sem, g0, g1, g2, g3]) (fun W h => ⟨rfl, h⟩)

set_option maxRecDepth 100000 in
theorem rof_left_ok (s : ByteArray) (hs : s.data.toList = [76, 69, 70, 84]) (t : ByteArray) (ht : t.size ≤ 300) (d : Int) (hd : I64 d) (hdc : canB d = true) (hd0 : ¬ d < 0) (p : Option Addr) (n c : Nat) (W : World) (l : List Bg) (a1 : Bg) (h1 : l[1]? = some a1) (hF : FitB W (.slice p n c) l) (hx : (sgl a1).toNum = .num d) :
   Calls Tryz.prog 30 #[.string s, .agg #[.int .i64 3, .int .i64 0, .string t, .int .i64 0], .slice p n c] W fun e w' => e = .returned (.agg #[.int .i64 (mkText (begB t (whN d))).k, .int .i64 (mkText (begB t (whN d))).n, .string (mkText (begB t (whN d))).s, .int .i64 (mkText (begB t (whN d))).e]) ∧ Ext W w' := by
 have hl : s.toList = [76, 69, 70, 84] := by rw [ByteArray.toList_eq]; exact hs
 have e0 : (s.toList == [78, 79, 84]) = false := by rw [hl]; decide
 have e1 : (s.toList == [76, 69, 78]) = false := by rw [hl]; decide
 have e2 : (s.toList == [65, 66, 83]) = false := by rw [hl]; decide
 have e3 : (s.toList == [70, 76, 79, 79, 82]) = false := by rw [hl]; decide
 have e4 : (s.toList == [83, 81, 82, 84]) = false := by rw [hl]; decide
 have e5 : (s.toList == [82, 79, 85, 78, 68]) = false := by rw [hl]; decide
 have e6 : (s.toList == [77, 79, 68]) = false := by rw [hl]; decide
 clear hs hl
 have cT : ∀ W, Calls Tryz.prog 17 #[.int .i64 10000] W fun r w' => r = .returned (.agg #[.int .i64 2, .int .i64 10000, .string ⟨#[]⟩, .int .i64 0]) ∧ Ext W w' := fun W => by
   have := rnum_any 10000 W
   rwa [mkNum_is (by decide)] at this
 have hn := hF.rd.len
 have hz := hF.z
 have hlt : 1 < l.length := (List.getElem?_eq_some_iff.1 h1).1
 have n1 : (n : Int) > 1 := by omega
 have n2 : (n : Int) ≤ 1500000 := by omega
 have cG := fun V (e : Ext W V) => rarg_any l 1 a1 h1 p n c V (hF.ext e)
 have ok1 : (sgl a1).ok := by have := hF.ok 1; rwa [sg_of h1] at this
 have cX := fun W => rtonum_any (sgl a1).k (sgl a1).n (sgl a1).s (sgl a1).e W (nm_of _ ok1).2
 rw [(nm_of _ ok1).1, hx] at cX
 simp only [V.dat] at cX
 generalize sgl a1 = v1 at *
 generalize v1.k = k1, v1.n = n1', v1.s = s1, v1.e = e1' at cG cX
 clear hn hz hlt hF h1 hx ok1
 have cW := fun W => rwhole_any d hd hdc W
 have htI : (t.size : Int) ≤ 300 := by omega
 obtain ⟨q, hqq⟩ : ∃ q : Nat, whN d = (q : Int) := ⟨(whN d).toNat, by unfold whN; omega⟩
 have hqb : (q : Int) ≤ 1000000000000000 := by rw [← hqq]; obtain ⟨i1, i2⟩ := hd; unfold whN; omega
 rw [hqq] at cW ⊢
 clear hd hdc hqq
 by_cases hq : (q : Int) < (t.size : Int)
 · have hqs : q ≤ t.size := by omega
   have hB : begB t (q : Int) = t.extract 0 q := by unfold begB; rw [show min (q : Int) (t.size : Int) = (q : Int) by omega]; rfl
   rw [hB]
   have cS : ∀ W, Calls Tryz.prog 16 #[.string (t.extract 0 q)] W fun r w' => r = .returned (.agg #[.int .i64 (mkText (t.extract 0 q)).k, .int .i64 (mkText (t.extract 0 q)).n, .string (mkText (t.extract 0 q)).s, .int .i64 (mkText (t.extract 0 q)).e]) ∧ Ext W w' := fun W => by
     have := rtext_any (t.extract 0 q) W
     rwa [dat_eq] at this
   generalize mkText (t.extract 0 q) = v at *
   clear hB
   go_enter Tryz.func30, Tryz.ntmps30
   go_wp2_with fail
   refine (cT _).mono ?_
   rintro e w1 ⟨rfl, E1⟩
   have H1 : Hid (Ext W w1 ∧ Blk w1 W.heap.size (.int .i64 3) (.int .i64 0) (.string t) (.int .i64 0) ∧ Blk w1 (W.heap.size + 1) (.int .i64 0) (.int .i64 0) (.string ⟨#[]⟩) (.int .i64 0)) := ⟨(((Ext.refl _).alloc _).alloc _).trans E1, blk_top rfl (((Ext.refl _).alloc _).trans E1), blk_top (by simp) E1⟩
   clear E1
   have HW : Hid (W.heap.size + 1 < w1.heap.size) := H1.out.2.2.1
   go_wp2_with fail
   refine (cG _ (H1.out.1.alloc _)).mono ?_
   rintro e w2 ⟨rfl, E2⟩
   have H2 : Hid (Ext W w2 ∧ Blk w2 W.heap.size (.int .i64 3) (.int .i64 0) (.string t) (.int .i64 0) ∧ Blk w2 (W.heap.size + 1) (.int .i64 0) (.int .i64 0) (.string ⟨#[]⟩) (.int .i64 0) ∧ Blk w2 w1.heap.size (.int .i64 2) (.int .i64 10000) (.string ⟨#[]⟩) (.int .i64 0)) := ⟨(H1.out.1).trans (((Ext.refl _).alloc _).trans E2), (H1.out.2.1).ext (((Ext.refl _).alloc _).trans E2), (H1.out.2.2).ext (((Ext.refl _).alloc _).trans E2), blk_top (by simp) E2⟩
   clear E2
   go_wp2_with fail
   refine (cX _).mono ?_
   rintro e w3 ⟨rfl, E3⟩
   have H3 : Hid (Ext W w3 ∧ Blk w3 W.heap.size (.int .i64 3) (.int .i64 0) (.string t) (.int .i64 0) ∧ Blk w3 (W.heap.size + 1) (.int .i64 0) (.int .i64 0) (.string ⟨#[]⟩) (.int .i64 0) ∧ Blk w3 w1.heap.size (.int .i64 2) (.int .i64 10000) (.string ⟨#[]⟩) (.int .i64 0)) := ⟨(H2.out.1).trans (E3), (H2.out.2.1).ext (E3), (H2.out.2.2.1).ext (E3), (H2.out.2.2.2).ext (E3)⟩
   clear E3
   obtain ⟨zd, ⟨d0, d1, d2, d3⟩, df0, df1, df2, df3⟩ := H3.out.2.2.2
   go_upto_region 17 with fail
   have H4 : Hid (Ext W ((((w3.setCell ⟨w1.heap.size, 0, none⟩ (.int .i64 2)).setCell ⟨w1.heap.size, 1, none⟩ (.int .i64 d)).setCell ⟨w1.heap.size, 2, none⟩ (.string ⟨#[]⟩)).setCell ⟨w1.heap.size, 3, none⟩ (.int .i64 0)) ∧ Blk ((((w3.setCell ⟨w1.heap.size, 0, none⟩ (.int .i64 2)).setCell ⟨w1.heap.size, 1, none⟩ (.int .i64 d)).setCell ⟨w1.heap.size, 2, none⟩ (.string ⟨#[]⟩)).setCell ⟨w1.heap.size, 3, none⟩ (.int .i64 0)) W.heap.size (.int .i64 3) (.int .i64 0) (.string t) (.int .i64 0) ∧ Blk ((((w3.setCell ⟨w1.heap.size, 0, none⟩ (.int .i64 2)).setCell ⟨w1.heap.size, 1, none⟩ (.int .i64 d)).setCell ⟨w1.heap.size, 2, none⟩ (.string ⟨#[]⟩)).setCell ⟨w1.heap.size, 3, none⟩ (.int .i64 0)) (W.heap.size + 1) (.int .i64 0) (.int .i64 0) (.string ⟨#[]⟩) (.int .i64 0) ∧ Blk ((((w3.setCell ⟨w1.heap.size, 0, none⟩ (.int .i64 2)).setCell ⟨w1.heap.size, 1, none⟩ (.int .i64 d)).setCell ⟨w1.heap.size, 2, none⟩ (.string ⟨#[]⟩)).setCell ⟨w1.heap.size, 3, none⟩ (.int .i64 0)) w1.heap.size (.int .i64 2) (.int .i64 d) (.string ⟨#[]⟩) (.int .i64 0)) := ⟨(((H3.out.1.setCell (p := ⟨w1.heap.size, 0, none⟩) (by have := HW.out; show W.heap.size ≤ w1.heap.size; omega) _).setCell (p := ⟨w1.heap.size, 1, none⟩) (by have := HW.out; show W.heap.size ≤ w1.heap.size; omega) _).setCell (p := ⟨w1.heap.size, 2, none⟩) (by have := HW.out; show W.heap.size ≤ w1.heap.size; omega) _).setCell (p := ⟨w1.heap.size, 3, none⟩) (by have := HW.out; show W.heap.size ≤ w1.heap.size; omega) _, (H3.out.2.1).far (by have := HW.out; omega) _ _ _ _, (H3.out.2.2.1).far (by have := HW.out; omega) _ _ _ _, (H3.out.2.2.2).set _ _ _ _⟩
   clear zd d0 d1 d2 d3 df0 df1 df2 df3
   generalize (((w3.setCell ⟨w1.heap.size, 0, none⟩ (.int .i64 2)).setCell ⟨w1.heap.size, 1, none⟩ (.int .i64 d)).setCell ⟨w1.heap.size, 2, none⟩ (.string ⟨#[]⟩)).setCell ⟨w1.heap.size, 3, none⟩ (.int .i64 0) = w4 at *
   obtain ⟨zd, ⟨d0, d1, d2, d3⟩, df0, df1, df2, df3⟩ := H4.out.2.2.2
   go_wp2_with fail
   refine (cW _).mono ?_
   rintro e w5 ⟨rfl, E5⟩
   have H5 : Hid (Ext W w5 ∧ Blk w5 W.heap.size (.int .i64 3) (.int .i64 0) (.string t) (.int .i64 0) ∧ Blk w5 (W.heap.size + 1) (.int .i64 0) (.int .i64 0) (.string ⟨#[]⟩) (.int .i64 0) ∧ Blk w5 w1.heap.size (.int .i64 2) (.int .i64 d) (.string ⟨#[]⟩) (.int .i64 0)) := ⟨(H4.out.1).trans (E5), (H4.out.2.1).ext (E5), (H4.out.2.2.1).ext (E5), (H4.out.2.2.2).ext (E5)⟩
   clear E5
   clear zd d0 d1 d2 d3 df0 df1 df2 df3
   obtain ⟨za, ⟨a0, a1, a2, a3⟩, af0, af1, af2, af3⟩ := H5.out.2.1
   go_wp2_with fail
   refine (cS _).mono ?_
   rintro e w6 ⟨rfl, E6⟩
   have H6 : Hid (Ext W w6 ∧ Blk w6 W.heap.size (.int .i64 3) (.int .i64 0) (.string t) (.int .i64 0) ∧ Blk w6 (W.heap.size + 1) (.int .i64 0) (.int .i64 0) (.string ⟨#[]⟩) (.int .i64 0) ∧ Blk w6 w1.heap.size (.int .i64 2) (.int .i64 d) (.string ⟨#[]⟩) (.int .i64 0)) := ⟨(H5.out.1).trans (E6), (H5.out.2.1).ext (E6), (H5.out.2.2.1).ext (E6), (H5.out.2.2.2).ext (E6)⟩
   clear E6
   clear za a0 a1 a2 a3 af0 af1 af2 af3
   obtain ⟨zb, ⟨b0, b1, b2, b3⟩, bf0, bf1, bf2, bf3⟩ := H6.out.2.2.1
   go_wp2_with fail
   exact fin4 b0 b1 b2 b3 rfl (by simp) H6.out.1 (fun W g0 g1 g2 g3 => by simp [results, Tryz.results30, go_sem, g0, g1, g2, g3]) (fun W h => ⟨rfl, h⟩)
 · have hB : mkText (begB t (q : Int)) = .text t := by
     unfold begB
     rw [show min (q : Int) (t.size : Int) = (t.size : Int) by omega]
     show mkText (t.extract 0 t.size) = _
     rw [show t.extract 0 t.size = t by simp]
     exact mkText_is ht
   rw [hB]
   clear hB
   go_enter Tryz.func30, Tryz.ntmps30
   go_wp2_with fail
   refine (cT _).mono ?_
   rintro e w1 ⟨rfl, E1⟩
   have H1 : Hid (Ext W w1 ∧ Blk w1 W.heap.size (.int .i64 3) (.int .i64 0) (.string t) (.int .i64 0) ∧ Blk w1 (W.heap.size + 1) (.int .i64 0) (.int .i64 0) (.string ⟨#[]⟩) (.int .i64 0)) := ⟨(((Ext.refl _).alloc _).alloc _).trans E1, blk_top rfl (((Ext.refl _).alloc _).trans E1), blk_top (by simp) E1⟩
   clear E1
   have HW : Hid (W.heap.size + 1 < w1.heap.size) := H1.out.2.2.1
   go_wp2_with fail
   refine (cG _ (H1.out.1.alloc _)).mono ?_
   rintro e w2 ⟨rfl, E2⟩
   have H2 : Hid (Ext W w2 ∧ Blk w2 W.heap.size (.int .i64 3) (.int .i64 0) (.string t) (.int .i64 0) ∧ Blk w2 (W.heap.size + 1) (.int .i64 0) (.int .i64 0) (.string ⟨#[]⟩) (.int .i64 0) ∧ Blk w2 w1.heap.size (.int .i64 2) (.int .i64 10000) (.string ⟨#[]⟩) (.int .i64 0)) := ⟨(H1.out.1).trans (((Ext.refl _).alloc _).trans E2), (H1.out.2.1).ext (((Ext.refl _).alloc _).trans E2), (H1.out.2.2).ext (((Ext.refl _).alloc _).trans E2), blk_top (by simp) E2⟩
   clear E2
   go_wp2_with fail
   refine (cX _).mono ?_
   rintro e w3 ⟨rfl, E3⟩
   have H3 : Hid (Ext W w3 ∧ Blk w3 W.heap.size (.int .i64 3) (.int .i64 0) (.string t) (.int .i64 0) ∧ Blk w3 (W.heap.size + 1) (.int .i64 0) (.int .i64 0) (.string ⟨#[]⟩) (.int .i64 0) ∧ Blk w3 w1.heap.size (.int .i64 2) (.int .i64 10000) (.string ⟨#[]⟩) (.int .i64 0)) := ⟨(H2.out.1).trans (E3), (H2.out.2.1).ext (E3), (H2.out.2.2.1).ext (E3), (H2.out.2.2.2).ext (E3)⟩
   clear E3
   obtain ⟨zd, ⟨d0, d1, d2, d3⟩, df0, df1, df2, df3⟩ := H3.out.2.2.2
   go_upto_region 17 with fail
   have H4 : Hid (Ext W ((((w3.setCell ⟨w1.heap.size, 0, none⟩ (.int .i64 2)).setCell ⟨w1.heap.size, 1, none⟩ (.int .i64 d)).setCell ⟨w1.heap.size, 2, none⟩ (.string ⟨#[]⟩)).setCell ⟨w1.heap.size, 3, none⟩ (.int .i64 0)) ∧ Blk ((((w3.setCell ⟨w1.heap.size, 0, none⟩ (.int .i64 2)).setCell ⟨w1.heap.size, 1, none⟩ (.int .i64 d)).setCell ⟨w1.heap.size, 2, none⟩ (.string ⟨#[]⟩)).setCell ⟨w1.heap.size, 3, none⟩ (.int .i64 0)) W.heap.size (.int .i64 3) (.int .i64 0) (.string t) (.int .i64 0) ∧ Blk ((((w3.setCell ⟨w1.heap.size, 0, none⟩ (.int .i64 2)).setCell ⟨w1.heap.size, 1, none⟩ (.int .i64 d)).setCell ⟨w1.heap.size, 2, none⟩ (.string ⟨#[]⟩)).setCell ⟨w1.heap.size, 3, none⟩ (.int .i64 0)) (W.heap.size + 1) (.int .i64 0) (.int .i64 0) (.string ⟨#[]⟩) (.int .i64 0) ∧ Blk ((((w3.setCell ⟨w1.heap.size, 0, none⟩ (.int .i64 2)).setCell ⟨w1.heap.size, 1, none⟩ (.int .i64 d)).setCell ⟨w1.heap.size, 2, none⟩ (.string ⟨#[]⟩)).setCell ⟨w1.heap.size, 3, none⟩ (.int .i64 0)) w1.heap.size (.int .i64 2) (.int .i64 d) (.string ⟨#[]⟩) (.int .i64 0)) := ⟨(((H3.out.1.setCell (p := ⟨w1.heap.size, 0, none⟩) (by have := HW.out; show W.heap.size ≤ w1.heap.size; omega) _).setCell (p := ⟨w1.heap.size, 1, none⟩) (by have := HW.out; show W.heap.size ≤ w1.heap.size; omega) _).setCell (p := ⟨w1.heap.size, 2, none⟩) (by have := HW.out; show W.heap.size ≤ w1.heap.size; omega) _).setCell (p := ⟨w1.heap.size, 3, none⟩) (by have := HW.out; show W.heap.size ≤ w1.heap.size; omega) _, (H3.out.2.1).far (by have := HW.out; omega) _ _ _ _, (H3.out.2.2.1).far (by have := HW.out; omega) _ _ _ _, (H3.out.2.2.2).set _ _ _ _⟩
   clear zd d0 d1 d2 d3 df0 df1 df2 df3
   generalize (((w3.setCell ⟨w1.heap.size, 0, none⟩ (.int .i64 2)).setCell ⟨w1.heap.size, 1, none⟩ (.int .i64 d)).setCell ⟨w1.heap.size, 2, none⟩ (.string ⟨#[]⟩)).setCell ⟨w1.heap.size, 3, none⟩ (.int .i64 0) = w4 at *
   obtain ⟨zd, ⟨d0, d1, d2, d3⟩, df0, df1, df2, df3⟩ := H4.out.2.2.2
   go_wp2_with fail
   refine (cW _).mono ?_
   rintro e w5 ⟨rfl, E5⟩
   have H5 : Hid (Ext W w5 ∧ Blk w5 W.heap.size (.int .i64 3) (.int .i64 0) (.string t) (.int .i64 0) ∧ Blk w5 (W.heap.size + 1) (.int .i64 0) (.int .i64 0) (.string ⟨#[]⟩) (.int .i64 0) ∧ Blk w5 w1.heap.size (.int .i64 2) (.int .i64 d) (.string ⟨#[]⟩) (.int .i64 0)) := ⟨(H4.out.1).trans (E5), (H4.out.2.1).ext (E5), (H4.out.2.2.1).ext (E5), (H4.out.2.2.2).ext (E5)⟩
   clear E5
   clear zd d0 d1 d2 d3 df0 df1 df2 df3
   obtain ⟨za, ⟨a0, a1, a2, a3⟩, af0, af1, af2, af3⟩ := H5.out.2.1
   obtain ⟨zb, ⟨b0, b1, b2, b3⟩, bf0, bf1, bf2, bf3⟩ := H5.out.2.2.1
   go_wp2_with fail
   exact fin4 b0 b1 b2 b3 rfl (by simp) H5.out.1 (fun W g0 g1 g2 g3 => by simp [results, Tryz.results30, go_sem, g0, g1, g2, g3]) (fun W h => ⟨rfl, h⟩)

set_option maxRecDepth 100000 in
theorem rof_left_one (s : ByteArray) (hs : s.data.toList = [76, 69, 70, 84]) (t : ByteArray) (ht : t.size ≤ 300) (p : Option Addr) (n c : Nat) (W : World) (hn1 : n ≤ 1) :
   Calls Tryz.prog 30 #[.string s, .agg #[.int .i64 3, .int .i64 0, .string t, .int .i64 0], .slice p n c] W fun e w' => e = .returned (.agg #[.int .i64 (mkText (begB t 1)).k, .int .i64 (mkText (begB t 1)).n, .string (mkText (begB t 1)).s, .int .i64 (mkText (begB t 1)).e]) ∧ Ext W w' := by
 have hl : s.toList = [76, 69, 70, 84] := by rw [ByteArray.toList_eq]; exact hs
 have e0 : (s.toList == [78, 79, 84]) = false := by rw [hl]; decide
 have e1 : (s.toList == [76, 69, 78]) = false := by rw [hl]; decide
 have e2 : (s.toList == [65, 66, 83]) = false := by rw [hl]; decide
 have e3 : (s.toList == [70, 76, 79, 79, 82]) = false := by rw [hl]; decide
 have e4 : (s.toList == [83, 81, 82, 84]) = false := by rw [hl]; decide
 have e5 : (s.toList == [82, 79, 85, 78, 68]) = false := by rw [hl]; decide
 have e6 : (s.toList == [77, 79, 68]) = false := by rw [hl]; decide
 clear hs hl
 have cT : ∀ W, Calls Tryz.prog 17 #[.int .i64 10000] W fun r w' => r = .returned (.agg #[.int .i64 2, .int .i64 10000, .string ⟨#[]⟩, .int .i64 0]) ∧ Ext W w' := fun W => by
   have := rnum_any 10000 W
   rwa [mkNum_is (by decide)] at this
 have n1 : ¬ (n : Int) > 1 := by omega
 have cW := fun W => rwhole_any 10000 ⟨by decide, by decide⟩ (by decide) W
 have htI : (t.size : Int) ≤ 300 := by omega
 obtain ⟨q, hqq⟩ : ∃ q : Nat, (1 : Int) = (q : Int) := ⟨1, rfl⟩
 have hq2 : whN 10000 = (q : Int) := hqq
 have hqb : (q : Int) ≤ 1000000000000000 := by omega
 rw [hq2] at cW
 rw [hqq]
 clear hqq hq2 hn1
 by_cases hq : (q : Int) < (t.size : Int)
 · have hqs : q ≤ t.size := by omega
   have hB : begB t (q : Int) = t.extract 0 q := by unfold begB; rw [show min (q : Int) (t.size : Int) = (q : Int) by omega]; rfl
   rw [hB]
   have cS : ∀ W, Calls Tryz.prog 16 #[.string (t.extract 0 q)] W fun r w' => r = .returned (.agg #[.int .i64 (mkText (t.extract 0 q)).k, .int .i64 (mkText (t.extract 0 q)).n, .string (mkText (t.extract 0 q)).s, .int .i64 (mkText (t.extract 0 q)).e]) ∧ Ext W w' := fun W => by
     have := rtext_any (t.extract 0 q) W
     rwa [dat_eq] at this
   generalize mkText (t.extract 0 q) = v at *
   clear hB
   go_enter Tryz.func30, Tryz.ntmps30
   go_wp2_with fail
   refine (cT _).mono ?_
   rintro e w1 ⟨rfl, E1⟩
   have H1 : Hid (Ext W w1 ∧ Blk w1 W.heap.size (.int .i64 3) (.int .i64 0) (.string t) (.int .i64 0) ∧ Blk w1 (W.heap.size + 1) (.int .i64 0) (.int .i64 0) (.string ⟨#[]⟩) (.int .i64 0)) := ⟨(((Ext.refl _).alloc _).alloc _).trans E1, blk_top rfl (((Ext.refl _).alloc _).trans E1), blk_top (by simp) E1⟩
   clear E1
   have H2 : Hid (Ext W (w1.alloc (.cells #[.int .i64 2, .int .i64 10000, .string ⟨#[]⟩, .int .i64 0] 25)) ∧ Blk (w1.alloc (.cells #[.int .i64 2, .int .i64 10000, .string ⟨#[]⟩, .int .i64 0] 25)) W.heap.size (.int .i64 3) (.int .i64 0) (.string t) (.int .i64 0) ∧ Blk (w1.alloc (.cells #[.int .i64 2, .int .i64 10000, .string ⟨#[]⟩, .int .i64 0] 25)) (W.heap.size + 1) (.int .i64 0) (.int .i64 0) (.string ⟨#[]⟩) (.int .i64 0) ∧ Blk (w1.alloc (.cells #[.int .i64 2, .int .i64 10000, .string ⟨#[]⟩, .int .i64 0] 25)) w1.heap.size (.int .i64 2) (.int .i64 10000) (.string ⟨#[]⟩) (.int .i64 0)) := ⟨H1.out.1.alloc _, H1.out.2.1.al _, H1.out.2.2.al _, blk_top (by simp) (Ext.refl _)⟩
   go_upto_region 17 with fail
   generalize (w1.alloc (.cells #[.int .i64 2, .int .i64 10000, .string ⟨#[]⟩, .int .i64 0] 25)) = w2 at *
   obtain ⟨zd, ⟨d0, d1, d2, d3⟩, df0, df1, df2, df3⟩ := H2.out.2.2.2
   go_wp2_with fail
   refine (cW _).mono ?_
   rintro e w3 ⟨rfl, E3⟩
   have H3 : Hid (Ext W w3 ∧ Blk w3 W.heap.size (.int .i64 3) (.int .i64 0) (.string t) (.int .i64 0) ∧ Blk w3 (W.heap.size + 1) (.int .i64 0) (.int .i64 0) (.string ⟨#[]⟩) (.int .i64 0) ∧ Blk w3 w1.heap.size (.int .i64 2) (.int .i64 10000) (.string ⟨#[]⟩) (.int .i64 0)) := ⟨(H2.out.1).trans (E3), (H2.out.2.1).ext (E3), (H2.out.2.2.1).ext (E3), (H2.out.2.2.2).ext (E3)⟩
   clear E3
   clear zd d0 d1 d2 d3 df0 df1 df2 df3
   obtain ⟨za, ⟨a0, a1, a2, a3⟩, af0, af1, af2, af3⟩ := H3.out.2.1
   go_wp2_with fail
   refine (cS _).mono ?_
   rintro e w4 ⟨rfl, E4⟩
   have H4 : Hid (Ext W w4 ∧ Blk w4 W.heap.size (.int .i64 3) (.int .i64 0) (.string t) (.int .i64 0) ∧ Blk w4 (W.heap.size + 1) (.int .i64 0) (.int .i64 0) (.string ⟨#[]⟩) (.int .i64 0) ∧ Blk w4 w1.heap.size (.int .i64 2) (.int .i64 10000) (.string ⟨#[]⟩) (.int .i64 0)) := ⟨(H3.out.1).trans (E4), (H3.out.2.1).ext (E4), (H3.out.2.2.1).ext (E4), (H3.out.2.2.2).ext (E4)⟩
   clear E4
   clear za a0 a1 a2 a3 af0 af1 af2 af3
   obtain ⟨zb, ⟨b0, b1, b2, b3⟩, bf0, bf1, bf2, bf3⟩ := H4.out.2.2.1
   go_wp2_with fail
   exact fin4 b0 b1 b2 b3 rfl (by simp) H4.out.1 (fun W g0 g1 g2 g3 => by simp [results, Tryz.results30, go_sem, g0, g1, g2, g3]) (fun W h => ⟨rfl, h⟩)
 · have hB : mkText (begB t (q : Int)) = .text t := by
     unfold begB
     rw [show min (q : Int) (t.size : Int) = (t.size : Int) by omega]
     show mkText (t.extract 0 t.size) = _
     rw [show t.extract 0 t.size = t by simp]
     exact mkText_is ht
   rw [hB]
   clear hB
   go_enter Tryz.func30, Tryz.ntmps30
   go_wp2_with fail
   refine (cT _).mono ?_
   rintro e w1 ⟨rfl, E1⟩
   have H1 : Hid (Ext W w1 ∧ Blk w1 W.heap.size (.int .i64 3) (.int .i64 0) (.string t) (.int .i64 0) ∧ Blk w1 (W.heap.size + 1) (.int .i64 0) (.int .i64 0) (.string ⟨#[]⟩) (.int .i64 0)) := ⟨(((Ext.refl _).alloc _).alloc _).trans E1, blk_top rfl (((Ext.refl _).alloc _).trans E1), blk_top (by simp) E1⟩
   clear E1
   have H2 : Hid (Ext W (w1.alloc (.cells #[.int .i64 2, .int .i64 10000, .string ⟨#[]⟩, .int .i64 0] 25)) ∧ Blk (w1.alloc (.cells #[.int .i64 2, .int .i64 10000, .string ⟨#[]⟩, .int .i64 0] 25)) W.heap.size (.int .i64 3) (.int .i64 0) (.string t) (.int .i64 0) ∧ Blk (w1.alloc (.cells #[.int .i64 2, .int .i64 10000, .string ⟨#[]⟩, .int .i64 0] 25)) (W.heap.size + 1) (.int .i64 0) (.int .i64 0) (.string ⟨#[]⟩) (.int .i64 0) ∧ Blk (w1.alloc (.cells #[.int .i64 2, .int .i64 10000, .string ⟨#[]⟩, .int .i64 0] 25)) w1.heap.size (.int .i64 2) (.int .i64 10000) (.string ⟨#[]⟩) (.int .i64 0)) := ⟨H1.out.1.alloc _, H1.out.2.1.al _, H1.out.2.2.al _, blk_top (by simp) (Ext.refl _)⟩
   go_upto_region 17 with fail
   generalize (w1.alloc (.cells #[.int .i64 2, .int .i64 10000, .string ⟨#[]⟩, .int .i64 0] 25)) = w2 at *
   obtain ⟨zd, ⟨d0, d1, d2, d3⟩, df0, df1, df2, df3⟩ := H2.out.2.2.2
   go_wp2_with fail
   refine (cW _).mono ?_
   rintro e w3 ⟨rfl, E3⟩
   have H3 : Hid (Ext W w3 ∧ Blk w3 W.heap.size (.int .i64 3) (.int .i64 0) (.string t) (.int .i64 0) ∧ Blk w3 (W.heap.size + 1) (.int .i64 0) (.int .i64 0) (.string ⟨#[]⟩) (.int .i64 0) ∧ Blk w3 w1.heap.size (.int .i64 2) (.int .i64 10000) (.string ⟨#[]⟩) (.int .i64 0)) := ⟨(H2.out.1).trans (E3), (H2.out.2.1).ext (E3), (H2.out.2.2.1).ext (E3), (H2.out.2.2.2).ext (E3)⟩
   clear E3
   clear zd d0 d1 d2 d3 df0 df1 df2 df3
   obtain ⟨za, ⟨a0, a1, a2, a3⟩, af0, af1, af2, af3⟩ := H3.out.2.1
   obtain ⟨zb, ⟨b0, b1, b2, b3⟩, bf0, bf1, bf2, bf3⟩ := H3.out.2.2.1
   go_wp2_with fail
   exact fin4 b0 b1 b2 b3 rfl (by simp) H3.out.1 (fun W g0 g1 g2 g3 => by simp [results, Tryz.results30, go_sem, g0, g1, g2, g3]) (fun W h => ⟨rfl, h⟩)
end Go.Proofs.YtalejeknigbhjaaGreatDoor
