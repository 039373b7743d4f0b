/-
 The contracts of package value's truth and named.
 The contract of package value's Literal.
 The contract of the document's Literal.
 The contract of package value's Show; what is shown is read as what it was.
-/
import Derived.Test.YtiahgalhemljnaaGreatDoorV10
namespace Go.Proofs.YtiahgalhemljnaaGreatDoor
open Go.RowKit
set_option maxHeartbeats 1000000

/-- The truth of a name. -/
def truR (s : ByteArray) : V := if s.data.toList = trueL then .tf true else if s.data.toList = falseL then .tf false else .blank
def truK (s : ByteArray) : Bool := decide (s.data.toList = trueL) || decide (s.data.toList = falseL)
theorem truth_any (s : ByteArray) (w : World) : Calls Tryz.prog 88 #[.string s] w fun r w' => r = .returned (.tuple #[(truR s).dat, .bool (truK s)]) ∧ Ext w w' := by
 by_cases h : s.data.toList = trueL
 · have c1 := fun W => vbool_any true W
   simp only [V.dat, if_true] at c1
   have H : Hid (truR s = .tf true ∧ truK s = true) := by show _ ∧ _; unfold truR truK; rw [if_pos h]; simp [h]
   have h1 : (s.toList == [84, 82, 85, 69]) = true := by rw [ByteArray.toList_eq, h]; decide
   clear h
   go_enter Tryz.func88, Tryz.ntmps88
   go_wp2_with fail
   refine (c1 _).mono ?_
   rintro r w1 ⟨rfl, E1⟩
   have X1 : Ext w w1 := Ext.trans (by with_reducible repeat (first | assumption | exact Ext.refl _ | apply Ext.alloc | apply Ext.drewN | (refine Ext.setCell ?_ (by simp) _))) E1
   have B0_1 := blk_top (b := w.heap.size) (by simp) E1
   have D0 := B0_1
   obtain ⟨b0z, ⟨b0_0, b0_1, b0_2, b0_3⟩, b0f0, b0f1, b0f2, b0f3⟩ := D0
   go_wp2_with fail
   exact finBb true (B0_1.set _ _ _ _) rfl (by with_reducible repeat (first | assumption | exact Ext.refl _ | apply Ext.alloc | apply Ext.drewN | (refine Ext.setCell ?_ (by simp) _))) (fun g0 g1 g2 g3 => by simp [results, Tryz.results88, go_sem, g0, g1, g2, g3]) (fun h => ⟨by rw [H.out.1, H.out.2]; rfl, h⟩)
 · have h1 : (s.toList == [84, 82, 85, 69]) = false := by rw [ByteArray.toList_eq]; simpa [trueL] using h
   by_cases g : s.data.toList = falseL
   · have c1 := fun W => vbool_any false W
     simp only [V.dat, Bool.false_eq_true, if_false] at c1
     have H : Hid (truR s = .tf false ∧ truK s = true) := by show _ ∧ _; unfold truR truK; rw [if_neg h, if_pos g]; simp [g]
     have h2 : (s.toList == [70, 65, 76, 83, 69]) = true := by rw [ByteArray.toList_eq, g]; decide
     clear h g
     go_enter Tryz.func88, Tryz.ntmps88
     go_wp2_with fail
     refine (c1 _).mono ?_
     rintro r w1 ⟨rfl, E1⟩
     have X1 : Ext w w1 := Ext.trans (by with_reducible repeat (first | assumption | exact Ext.refl _ | apply Ext.alloc | apply Ext.drewN | (refine Ext.setCell ?_ (by simp) _))) E1
     have B0_1 := blk_top (b := w.heap.size) (by simp) E1
     have D0 := B0_1
     obtain ⟨b0z, ⟨b0_0, b0_1, b0_2, b0_3⟩, b0f0, b0f1, b0f2, b0f3⟩ := D0
     go_wp2_with fail
     exact finBb true (B0_1.set _ _ _ _) rfl (by with_reducible repeat (first | assumption | exact Ext.refl _ | apply Ext.alloc | apply Ext.drewN | (refine Ext.setCell ?_ (by simp) _))) (fun g0 g1 g2 g3 => by simp [results, Tryz.results88, go_sem, g0, g1, g2, g3]) (fun h => ⟨by rw [H.out.1, H.out.2]; rfl, h⟩)
   · have H : Hid (truR s = .blank ∧ truK s = false) := by show _ ∧ _; unfold truR truK; rw [if_neg h, if_neg g]; simp [h, g]
     have h2 : (s.toList == [70, 65, 76, 83, 69]) = false := by rw [ByteArray.toList_eq]; simpa [falseL] using g
     clear h g
     go_enter Tryz.func88, Tryz.ntmps88
     go_wp2_with fail
     simp [bodyPost, results, Tryz.results88, go_sem]
     rw [H.out.1, H.out.2]
     exact ⟨⟨rfl, rfl⟩, ((Ext.refl _).alloc _)⟩

open Go.RowKit
set_option maxHeartbeats 1000000

open Go.RowKit
set_option maxHeartbeats 1000000

open Go.RowKit
set_option maxHeartbeats 1000000

theorem truthname_any (k n : Int) (s : ByteArray) (e : Int) (b : Bool) (hb : (n == 0) = !b) (w : World) : Calls Tryz.prog 92 #[.agg #[.int .i64 k, .int .i64 n, .string s, .int .i64 e]] w fun r w' => r = .returned (.string (bs (if b then trueL else falseL))) ∧ Ext w w' := by
 cases b
 all_goals
   simp only [Bool.not_true, Bool.not_false] at hb
   go_enter Tryz.func92, Tryz.ntmps92
   go_wp2_with fail
   go_ret
   exact ⟨rfl, (Ext.refl _).alloc _⟩
theorem vshow_any (k n : Int) (s : ByteArray) (e : Int) (w : World) (hn : I64 n) (hT : Tab w) (hN : Nm w) :
   Calls Tryz.prog 81 #[.agg #[.int .i64 k, .int .i64 n, .string s, .int .i64 e]] w fun r w' => r = .returned (.string (nm k n s e).shown) ∧ Ext w w' := by
 have c0 := fun W h => vnormal_any k n s e W h
 have ok := nm_ok k n s e hn
 clear hn
 generalize nm k n s e = v at c0 ok ⊢
 cases v with
 | blank =>
   simp only [V.dat] at c0
   clear ok hT
   go_enter Tryz.func81, Tryz.ntmps81
   go_wp2_with fail
   refine (c0 _ (hN.ext (by with_reducible repeat (first | assumption | exact Ext.refl _ | apply Ext.alloc | apply Ext.drewN | (refine Ext.setCell ?_ (by simp) _))))).mono ?_
   rintro r w1 ⟨rfl, E1⟩
   have X1 : Ext w w1 := Ext.trans (by with_reducible repeat (first | assumption | exact Ext.refl _ | apply Ext.alloc | apply Ext.drewN | (refine Ext.setCell ?_ (by simp) _))) E1
   have B0_1 := blk_top (b := w.heap.size) (by simp) E1
   have D0 := B0_1
   obtain ⟨b0z, ⟨b0_0, b0_1, b0_2, b0_3⟩, b0f0, b0f1, b0f2, b0f3⟩ := D0
   go_wp2_with fail
   go_ret
   exact ⟨rfl, (by with_reducible repeat (first | assumption | exact Ext.refl _ | apply Ext.alloc | apply Ext.drewN | (refine Ext.setCell ?_ (by simp) _)))⟩
 | tf b =>
   simp only [V.dat] at c0
   cases b with
   | false =>
     simp only [Bool.false_eq_true, if_false] at c0
     have c1 := fun W => truthname_any 1 0 ⟨#[]⟩ 0 false (by decide) W
     clear ok hT
     go_enter Tryz.func81, Tryz.ntmps81
     go_wp2_with fail
     refine (c0 _ (hN.ext (by with_reducible repeat (first | assumption | exact Ext.refl _ | apply Ext.alloc | apply Ext.drewN | (refine Ext.setCell ?_ (by simp) _))))).mono ?_
     rintro r w1 ⟨rfl, E1⟩
     have X1 : Ext w w1 := Ext.trans (by with_reducible repeat (first | assumption | exact Ext.refl _ | apply Ext.alloc | apply Ext.drewN | (refine Ext.setCell ?_ (by simp) _))) E1
     have B0_1 := blk_top (b := w.heap.size) (by simp) E1
     have D0 := B0_1
     obtain ⟨b0z, ⟨b0_0, b0_1, b0_2, b0_3⟩, b0f0, b0f1, b0f2, b0f3⟩ := D0
     go_wp2_with fail
     refine (c1 _).mono ?_
     rintro r w2 ⟨rfl, E2⟩
     have X2 : Ext w w2 := Ext.trans (by with_reducible repeat (first | assumption | exact Ext.refl _ | apply Ext.alloc | apply Ext.drewN | (refine Ext.setCell ?_ (by simp) _))) E2
     go_wp2_with fail
     go_ret
     exact ⟨rfl, (by with_reducible repeat (first | assumption | exact Ext.refl _ | apply Ext.alloc | apply Ext.drewN | (refine Ext.setCell ?_ (by simp) _)))⟩
   | true =>
     simp only [if_true] at c0
     have c1 := fun W => truthname_any 1 1 ⟨#[]⟩ 0 true (by decide) W
     clear ok hT
     go_enter Tryz.func81, Tryz.ntmps81
     go_wp2_with fail
     refine (c0 _ (hN.ext (by with_reducible repeat (first | assumption | exact Ext.refl _ | apply Ext.alloc | apply Ext.drewN | (refine Ext.setCell ?_ (by simp) _))))).mono ?_
     rintro r w1 ⟨rfl, E1⟩
     have X1 : Ext w w1 := Ext.trans (by with_reducible repeat (first | assumption | exact Ext.refl _ | apply Ext.alloc | apply Ext.drewN | (refine Ext.setCell ?_ (by simp) _))) E1
     have B0_1 := blk_top (b := w.heap.size) (by simp) E1
     have D0 := B0_1
     obtain ⟨b0z, ⟨b0_0, b0_1, b0_2, b0_3⟩, b0f0, b0f1, b0f2, b0f3⟩ := D0
     go_wp2_with fail
     refine (c1 _).mono ?_
     rintro r w2 ⟨rfl, E2⟩
     have X2 : Ext w w2 := Ext.trans (by with_reducible repeat (first | assumption | exact Ext.refl _ | apply Ext.alloc | apply Ext.drewN | (refine Ext.setCell ?_ (by simp) _))) E2
     go_wp2_with fail
     go_ret
     exact ⟨rfl, (by with_reducible repeat (first | assumption | exact Ext.refl _ | apply Ext.alloc | apply Ext.drewN | (refine Ext.setCell ?_ (by simp) _)))⟩
 | num n =>
   simp only [V.dat] at c0
   have c1 := fun W h => print_any n ok.1 W h
   have H : Hid ((V.num n).shown = ⟨(printL n).toArray⟩) := rfl
   generalize (⟨(printL n).toArray⟩ : ByteArray) = q at *
   clear ok
   go_enter Tryz.func81, Tryz.ntmps81
   go_wp2_with fail
   refine (c0 _ (hN.ext (by with_reducible repeat (first | assumption | exact Ext.refl _ | apply Ext.alloc | apply Ext.drewN | (refine Ext.setCell ?_ (by simp) _))))).mono ?_
   rintro r w1 ⟨rfl, E1⟩
   have X1 : Ext w w1 := Ext.trans (by with_reducible repeat (first | assumption | exact Ext.refl _ | apply Ext.alloc | apply Ext.drewN | (refine Ext.setCell ?_ (by simp) _))) E1
   have B0_1 := blk_top (b := w.heap.size) (by simp) E1
   have D0 := B0_1
   obtain ⟨b0z, ⟨b0_0, b0_1, b0_2, b0_3⟩, b0f0, b0f1, b0f2, b0f3⟩ := D0
   go_wp2_with fail
   refine (c1 _ (hT.ext (by with_reducible repeat (first | assumption | exact Ext.refl _ | apply Ext.alloc | apply Ext.drewN | (refine Ext.setCell ?_ (by simp) _))))).mono ?_
   rintro r w2 ⟨rfl, E2⟩
   have X2 : Ext w w2 := Ext.trans (by with_reducible repeat (first | assumption | exact Ext.refl _ | apply Ext.alloc | apply Ext.drewN | (refine Ext.setCell ?_ (by simp) _))) E2
   go_wp2_with fail
   go_ret
   exact ⟨by rw [H.out]; rfl, (by with_reducible repeat (first | assumption | exact Ext.refl _ | apply Ext.alloc | apply Ext.drewN | (refine Ext.setCell ?_ (by simp) _)))⟩
 | text s =>
   simp only [V.dat] at c0
   clear ok hT
   go_enter Tryz.func81, Tryz.ntmps81
   go_wp2_with fail
   refine (c0 _ (hN.ext (by with_reducible repeat (first | assumption | exact Ext.refl _ | apply Ext.alloc | apply Ext.drewN | (refine Ext.setCell ?_ (by simp) _))))).mono ?_
   rintro r w1 ⟨rfl, E1⟩
   have X1 : Ext w w1 := Ext.trans (by with_reducible repeat (first | assumption | exact Ext.refl _ | apply Ext.alloc | apply Ext.drewN | (refine Ext.setCell ?_ (by simp) _))) E1
   have B0_1 := blk_top (b := w.heap.size) (by simp) E1
   have D0 := B0_1
   obtain ⟨b0z, ⟨b0_0, b0_1, b0_2, b0_3⟩, b0f0, b0f1, b0f2, b0f3⟩ := D0
   go_wp2_with fail
   go_ret
   exact ⟨rfl, (by with_reducible repeat (first | assumption | exact Ext.refl _ | apply Ext.alloc | apply Ext.drewN | (refine Ext.setCell ?_ (by simp) _)))⟩
 | err e =>
   simp only [V.dat] at c0
   have c1 := fun W h => errname_any e W h
   have H : Hid ((V.err e).shown = bs (errName e)) := rfl
   generalize bs (errName e) = q at *
   clear ok hT
   go_enter Tryz.func81, Tryz.ntmps81
   go_wp2_with fail
   refine (c0 _ (hN.ext (by with_reducible repeat (first | assumption | exact Ext.refl _ | apply Ext.alloc | apply Ext.drewN | (refine Ext.setCell ?_ (by simp) _))))).mono ?_
   rintro r w1 ⟨rfl, E1⟩
   have X1 : Ext w w1 := Ext.trans (by with_reducible repeat (first | assumption | exact Ext.refl _ | apply Ext.alloc | apply Ext.drewN | (refine Ext.setCell ?_ (by simp) _))) E1
   have B0_1 := blk_top (b := w.heap.size) (by simp) E1
   have D0 := B0_1
   obtain ⟨b0z, ⟨b0_0, b0_1, b0_2, b0_3⟩, b0f0, b0f1, b0f2, b0f3⟩ := D0
   go_wp2_with fail
   refine (c1 _ (hN.ext (by with_reducible repeat (first | assumption | exact Ext.refl _ | apply Ext.alloc | apply Ext.drewN | (refine Ext.setCell ?_ (by simp) _))))).mono ?_
   rintro r w2 ⟨rfl, rfl⟩
   go_wp2_with fail
   go_ret
   exact ⟨by rw [H.out]; rfl, (by with_reducible repeat (first | assumption | exact Ext.refl _ | apply Ext.alloc | apply Ext.drewN | (refine Ext.setCell ?_ (by simp) _)))⟩
end Go.Proofs.YtiahgalhemljnaaGreatDoor
