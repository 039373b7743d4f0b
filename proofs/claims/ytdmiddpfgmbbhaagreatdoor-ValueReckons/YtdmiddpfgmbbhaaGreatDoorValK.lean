/-
  The contract of package value's Show; what is shown is read as what it was.
-/
import Derived.Test.YtdmiddpfgmbbhaaGreatDoorValJ
namespace Go.Proofs.YtdmiddpfgmbbhaaGreatDoor
open Go.RowKit
set_option maxHeartbeats 1000000

theorem truthname_any (k n : Int) (s : ByteArray) (e : Int) (b : Bool) (hb : (n == 0) = !b) (w : World) : Calls Tryz.prog 63 #[.agg #[.int .i64 k, .int .i64 n, .string s, .int .i64 e]] w fun r w' => r = .returned (.string (bs (if b then trueL else falseL))) ∧ Ext w w' := by
  cases b
  all_goals
    simp only [Bool.not_true, Bool.not_false] at hb
    go_enter Tryz.func63, Tryz.ntmps63
    go_wp2_with fail
    go_ret
    exact ⟨rfl, (Ext.refl _).alloc _⟩
theorem vshow_any (k n : Int) (s : ByteArray) (e : Int) (w : World) (hn : I64 n) (hT : Tab w) (hN : Nm w) :
    Calls Tryz.prog 46 #[.agg #[.int .i64 k, .int .i64 n, .string s, .int .i64 e]] w fun r w' => r = .returned (.string (nm k n s e).shown) ∧ Ext w w' := by
  have c0 := fun W h => vnormal_any k n s e W h
  have ok := nm_ok k n s e hn
  clear hn
  generalize nm k n s e = v at c0 ok ⊢
  cases v with
  | blank =>
    simp only [V.dat] at c0
    clear ok hT
    go_enter Tryz.func46, Tryz.ntmps46
    go_wp2_with fail
    refine (c0 _ (hN.ext (by with_reducible repeat (first | assumption | exact Ext.refl _ | apply Ext.alloc | apply Ext.drewN | (refine Ext.setCell ?_ (by simp) _))))).mono ?_
    rintro r w1 ⟨rfl, E1⟩
    have X1 : Ext w w1 := Ext.trans (by with_reducible repeat (first | assumption | exact Ext.refl _ | apply Ext.alloc | apply Ext.drewN | (refine Ext.setCell ?_ (by simp) _))) E1
    have B0_1 := blk_top (b := w.heap.size) (by simp) E1
    have D0 := B0_1
    obtain ⟨b0z, ⟨b0_0, b0_1, b0_2, b0_3⟩, b0f0, b0f1, b0f2, b0f3⟩ := D0
    go_wp2_with fail
    go_ret
    exact ⟨rfl, (by with_reducible repeat (first | assumption | exact Ext.refl _ | apply Ext.alloc | apply Ext.drewN | (refine Ext.setCell ?_ (by simp) _)))⟩
  | tf b =>
    simp only [V.dat] at c0
    cases b with
    | false =>
      simp only [Bool.false_eq_true, if_false] at c0
      have c1 := fun W => truthname_any 1 0 ⟨#[]⟩ 0 false (by decide) W
      clear ok hT
      go_enter Tryz.func46, Tryz.ntmps46
      go_wp2_with fail
      refine (c0 _ (hN.ext (by with_reducible repeat (first | assumption | exact Ext.refl _ | apply Ext.alloc | apply Ext.drewN | (refine Ext.setCell ?_ (by simp) _))))).mono ?_
      rintro r w1 ⟨rfl, E1⟩
      have X1 : Ext w w1 := Ext.trans (by with_reducible repeat (first | assumption | exact Ext.refl _ | apply Ext.alloc | apply Ext.drewN | (refine Ext.setCell ?_ (by simp) _))) E1
      have B0_1 := blk_top (b := w.heap.size) (by simp) E1
      have D0 := B0_1
      obtain ⟨b0z, ⟨b0_0, b0_1, b0_2, b0_3⟩, b0f0, b0f1, b0f2, b0f3⟩ := D0
      go_wp2_with fail
      refine (c1 _).mono ?_
      rintro r w2 ⟨rfl, E2⟩
      have X2 : Ext w w2 := Ext.trans (by with_reducible repeat (first | assumption | exact Ext.refl _ | apply Ext.alloc | apply Ext.drewN | (refine Ext.setCell ?_ (by simp) _))) E2
      go_wp2_with fail
      go_ret
      exact ⟨rfl, (by with_reducible repeat (first | assumption | exact Ext.refl _ | apply Ext.alloc | apply Ext.drewN | (refine Ext.setCell ?_ (by simp) _)))⟩
    | true =>
      simp only [if_true] at c0
      have c1 := fun W => truthname_any 1 1 ⟨#[]⟩ 0 true (by decide) W
      clear ok hT
      go_enter Tryz.func46, Tryz.ntmps46
      go_wp2_with fail
      refine (c0 _ (hN.ext (by with_reducible repeat (first | assumption | exact Ext.refl _ | apply Ext.alloc | apply Ext.drewN | (refine Ext.setCell ?_ (by simp) _))))).mono ?_
      rintro r w1 ⟨rfl, E1⟩
      have X1 : Ext w w1 := Ext.trans (by with_reducible repeat (first | assumption | exact Ext.refl _ | apply Ext.alloc | apply Ext.drewN | (refine Ext.setCell ?_ (by simp) _))) E1
      have B0_1 := blk_top (b := w.heap.size) (by simp) E1
      have D0 := B0_1
      obtain ⟨b0z, ⟨b0_0, b0_1, b0_2, b0_3⟩, b0f0, b0f1, b0f2, b0f3⟩ := D0
      go_wp2_with fail
      refine (c1 _).mono ?_
      rintro r w2 ⟨rfl, E2⟩
      have X2 : Ext w w2 := Ext.trans (by with_reducible repeat (first | assumption | exact Ext.refl _ | apply Ext.alloc | apply Ext.drewN | (refine Ext.setCell ?_ (by simp) _))) E2
      go_wp2_with fail
      go_ret
      exact ⟨rfl, (by with_reducible repeat (first | assumption | exact Ext.refl _ | apply Ext.alloc | apply Ext.drewN | (refine Ext.setCell ?_ (by simp) _)))⟩
  | num n =>
    simp only [V.dat] at c0
    have c1 := fun W h => print_any n ok.1 W h
    have H : Hid ((V.num n).shown = ⟨(printL n).toArray⟩) := rfl
    generalize (⟨(printL n).toArray⟩ : ByteArray) = q at *
    clear ok
    go_enter Tryz.func46, Tryz.ntmps46
    go_wp2_with fail
    refine (c0 _ (hN.ext (by with_reducible repeat (first | assumption | exact Ext.refl _ | apply Ext.alloc | apply Ext.drewN | (refine Ext.setCell ?_ (by simp) _))))).mono ?_
    rintro r w1 ⟨rfl, E1⟩
    have X1 : Ext w w1 := Ext.trans (by with_reducible repeat (first | assumption | exact Ext.refl _ | apply Ext.alloc | apply Ext.drewN | (refine Ext.setCell ?_ (by simp) _))) E1
    have B0_1 := blk_top (b := w.heap.size) (by simp) E1
    have D0 := B0_1
    obtain ⟨b0z, ⟨b0_0, b0_1, b0_2, b0_3⟩, b0f0, b0f1, b0f2, b0f3⟩ := D0
    go_wp2_with fail
    refine (c1 _ (hT.ext (by with_reducible repeat (first | assumption | exact Ext.refl _ | apply Ext.alloc | apply Ext.drewN | (refine Ext.setCell ?_ (by simp) _))))).mono ?_
    rintro r w2 ⟨rfl, E2⟩
    have X2 : Ext w w2 := Ext.trans (by with_reducible repeat (first | assumption | exact Ext.refl _ | apply Ext.alloc | apply Ext.drewN | (refine Ext.setCell ?_ (by simp) _))) E2
    go_wp2_with fail
    go_ret
    exact ⟨by rw [H.out]; rfl, (by with_reducible repeat (first | assumption | exact Ext.refl _ | apply Ext.alloc | apply Ext.drewN | (refine Ext.setCell ?_ (by simp) _)))⟩
  | text s =>
    simp only [V.dat] at c0
    clear ok hT
    go_enter Tryz.func46, Tryz.ntmps46
    go_wp2_with fail
    refine (c0 _ (hN.ext (by with_reducible repeat (first | assumption | exact Ext.refl _ | apply Ext.alloc | apply Ext.drewN | (refine Ext.setCell ?_ (by simp) _))))).mono ?_
    rintro r w1 ⟨rfl, E1⟩
    have X1 : Ext w w1 := Ext.trans (by with_reducible repeat (first | assumption | exact Ext.refl _ | apply Ext.alloc | apply Ext.drewN | (refine Ext.setCell ?_ (by simp) _))) E1
    have B0_1 := blk_top (b := w.heap.size) (by simp) E1
    have D0 := B0_1
    obtain ⟨b0z, ⟨b0_0, b0_1, b0_2, b0_3⟩, b0f0, b0f1, b0f2, b0f3⟩ := D0
    go_wp2_with fail
    go_ret
    exact ⟨rfl, (by with_reducible repeat (first | assumption | exact Ext.refl _ | apply Ext.alloc | apply Ext.drewN | (refine Ext.setCell ?_ (by simp) _)))⟩
  | err e =>
    simp only [V.dat] at c0
    have c1 := fun W h => errname_any e W h
    have H : Hid ((V.err e).shown = bs (errName e)) := rfl
    generalize bs (errName e) = q at *
    clear ok hT
    go_enter Tryz.func46, Tryz.ntmps46
    go_wp2_with fail
    refine (c0 _ (hN.ext (by with_reducible repeat (first | assumption | exact Ext.refl _ | apply Ext.alloc | apply Ext.drewN | (refine Ext.setCell ?_ (by simp) _))))).mono ?_
    rintro r w1 ⟨rfl, E1⟩
    have X1 : Ext w w1 := Ext.trans (by with_reducible repeat (first | assumption | exact Ext.refl _ | apply Ext.alloc | apply Ext.drewN | (refine Ext.setCell ?_ (by simp) _))) E1
    have B0_1 := blk_top (b := w.heap.size) (by simp) E1
    have D0 := B0_1
    obtain ⟨b0z, ⟨b0_0, b0_1, b0_2, b0_3⟩, b0f0, b0f1, b0f2, b0f3⟩ := D0
    go_wp2_with fail
    refine (c1 _ (hN.ext (by with_reducible repeat (first | assumption | exact Ext.refl _ | apply Ext.alloc | apply Ext.drewN | (refine Ext.setCell ?_ (by simp) _))))).mono ?_
    rintro r w2 ⟨rfl, rfl⟩
    go_wp2_with fail
    go_ret
    exact ⟨by rw [H.out]; rfl, (by with_reducible repeat (first | assumption | exact Ext.refl _ | apply Ext.alloc | apply Ext.drewN | (refine Ext.setCell ?_ (by simp) _)))⟩
theorem lit_back (v : V) (h : v.ok) (hk : v.k ≠ 3) : lit v.shown = v := by
  cases v with
  | blank => rfl
  | tf b => cases b
            · exact lit_false rfl
            · exact lit_true rfl
  | num n =>
    obtain ⟨r1, r2⟩ := read_back n h.2 h.1
    have hl : ((V.num n).shown).data.toList = printL n := rfl
    have k : numK (V.num n).shown = true := by rw [numK_k, hl]; exact .inl r2
    have he : ((V.num n).shown).data.toList ≠ [] := by
      rw [hl]; intro e; rw [e] at r2; exact absurd r2 (by decide)
    rw [lit_n he (num_head k) k]
    unfold numR
    rw [hl, r2, r1]; rfl
  | text s => exact absurd rfl hk
  | err e =>
    have h' : 1 ≤ e ∧ e ≤ 5 := h
    exact lit_name e (by omega) rfl
theorem lit_quo (s : ByteArray) (h : s.size ≤ 300) : lit ((⟨#[39]⟩ : ByteArray) ++ s) = .text s := by
  have hl : ((⟨#[39]⟩ : ByteArray) ++ s).data.toList = 39 :: s.data.toList := by rw [app_list]; rfl
  rw [lit_q (by rw [hl]; simp) (by rw [hl]; rfl), hl]
  exact mkText_is h
end Go.Proofs.YtdmiddpfgmbbhaaGreatDoor
