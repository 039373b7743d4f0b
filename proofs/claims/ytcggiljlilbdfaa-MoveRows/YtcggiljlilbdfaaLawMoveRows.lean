/-
 MoveRows is proved: for every two ints the call returns true. No condition.
-/
import Derived.Test.YtcggiljlilbdfaaU43
import Derived.Test.YtcggiljlilbdfaaRows
import Derived.ProofKit
import Derived.OpenShut
import Derived.ChangeOld
import Derived.SizedLaws
import Derived.Lib.SmallJoins
namespace Go.Proofs.Ytcggiljlilbdfaa.moveRows
open Go.ChangeShapes Go.WideShapes Go.ChangeAt Go.RowKit Go.Joins
set_option maxHeartbeats 6000000
set_option maxRecDepth 100000

theorem own : ownKnob Try.prog.godebug = none := by kernel_rfl
theorem row_back (a row : Int) (h0 : ¬ inR a row = 0) (_ : ¬ a < 1) : deR a (inR a row) = row := by
 unfold inR at h0 ⊢
 split at h0
 · exact absurd rfl h0
 · rename_i h1
   rw [if_neg h1]
   split at h0
   · rename_i h2
     rw [if_pos h2]; unfold deR; rw [if_neg (by omega), if_pos h2]
   · rename_i h2
     rw [if_neg h2]
     split at h0
     · exact absurd rfl h0
     · rename_i h3
       rw [if_neg h3]; unfold deR; rw [if_neg (by omega), if_neg (by omega)]; omega
theorem walk (row a : Int) (_ : (Lit.int .i64 row).wf = true) (_ : (Lit.int .i64 a).wf = true) {w : World} :
   Calls Try.prog 8 #[.int .i64 row, .int .i64 a] w fun e w' => e = .returned (.bool true) ∧ Ext w w' := by
 have c1 := fun V => (inserted_any row a V).mono (R' := fun e w' => e = .returned (.int .i64 (inR a row)) ∧ Ext V w') (fun e w' q => ⟨q.1, by rw [q.2]; exact Ext.refl _⟩)
 have c2 := fun V => (deleted_any row a V).mono (R' := fun e w' => e = .returned (.int .i64 (deR a row)) ∧ Ext V w') (fun e w' q => ⟨q.1, by rw [q.2]; exact Ext.refl _⟩)
 have c3 := fun V => (rinserted_any row a V).mono (R' := fun e w' => e = .returned (.int .i64 (inR a row)) ∧ Ext V w') (fun e w' q => ⟨q.1, by rw [q.2]; exact Ext.refl _⟩)
 have c4 := fun V => (rdeleted_any row a V).mono (R' := fun e w' => e = .returned (.int .i64 (deR a row)) ∧ Ext V w') (fun e w' q => ⟨q.1, by rw [q.2]; exact Ext.refl _⟩)
 have c5 := fun V => (deleted_any (inR a row) a V).mono (R' := fun e w' => e = .returned (.int .i64 (deR a (inR a row))) ∧ Ext V w') (fun e w' q => ⟨q.1, by rw [q.2]; exact Ext.refl _⟩)
 have HB : Hid (¬ inR a row = 0 → ¬ a < 1 → deR a (inR a row) = row) := row_back a row
 obtain ⟨x, hx⟩ : ∃ x, inR a row = x := ⟨_, rfl⟩
 obtain ⟨y, hy⟩ : ∃ y, deR a row = y := ⟨_, rfl⟩
 rw [hx] at c1 c3 c5 HB
 rw [hy] at c2 c4
 clear hx hy
 have bx : (x != x) = false := by simp
 have by' : (y != y) = false := by simp
 by_cases h0 : x = 0
 · have e0 : (x == 0) = true := by simpa using h0
   clear h0 HB c5
   go_enter Try.func8, Try.ntmps8
   go_wp2_with fail
   refine (c1 _).mono ?_
   rintro e w1 ⟨rfl, E1⟩
   go_wp2_with fail
   refine (c2 _).mono ?_
   rintro e w2 ⟨rfl, E2⟩
   go_wp2_with fail
   refine (c3 _).mono ?_
   rintro e w3 ⟨rfl, E3⟩
   go_wp2_with fail
   refine (c4 _).mono ?_
   rintro e w4 ⟨rfl, E4⟩
   have HE : Hid (Ext w w4) := E1.trans (E2.trans (E3.trans E4))
   clear E1 E2 E3 E4
   go_wp2_with fail
   refine (lives11_any _).mono ?_
   rintro e w9 ⟨rfl, E9⟩
   have HE9 : Hid (Ext w w9) := Ext.trans HE.out E9
   clear E9
   go_wp2_with fail
   go_ret
   exact ⟨rfl, HE9.out⟩
 have e0 : (x == 0) = false := by simpa using h0
 by_cases ha : a < 1
 · clear h0 HB c5
   go_enter Try.func8, Try.ntmps8
   go_wp2_with fail
   refine (c1 _).mono ?_
   rintro e w1 ⟨rfl, E1⟩
   go_wp2_with fail
   refine (c2 _).mono ?_
   rintro e w2 ⟨rfl, E2⟩
   go_wp2_with fail
   refine (c3 _).mono ?_
   rintro e w3 ⟨rfl, E3⟩
   go_wp2_with fail
   refine (c4 _).mono ?_
   rintro e w4 ⟨rfl, E4⟩
   have HE : Hid (Ext w w4) := E1.trans (E2.trans (E3.trans E4))
   clear E1 E2 E3 E4
   go_wp2_with fail
   refine (lives11_any _).mono ?_
   rintro e w9 ⟨rfl, E9⟩
   have HE9 : Hid (Ext w w9) := Ext.trans HE.out E9
   clear E9
   go_wp2_with fail
   go_ret
   exact ⟨rfl, HE9.out⟩
 · have hb := HB.out h0 ha
   rw [hb] at c5
   have er : (row == row) = true := by simp
   clear h0 HB hb
   go_enter Try.func8, Try.ntmps8
   go_wp2_with fail
   refine (c1 _).mono ?_
   rintro e w1 ⟨rfl, E1⟩
   go_wp2_with fail
   refine (c2 _).mono ?_
   rintro e w2 ⟨rfl, E2⟩
   go_wp2_with fail
   refine (c3 _).mono ?_
   rintro e w3 ⟨rfl, E3⟩
   go_wp2_with fail
   refine (c4 _).mono ?_
   rintro e w4 ⟨rfl, E4⟩
   have HE : Hid (Ext w w4) := E1.trans (E2.trans (E3.trans E4))
   clear E1 E2 E3 E4
   go_wp2_with fail
   refine (c5 _).mono ?_
   rintro e w5 ⟨rfl, E5⟩
   replace HE : Hid (Ext w w5) := HE.out.trans E5
   clear E5
   go_wp2_with fail
   refine (lives11_any _).mono ?_
   rintro e w9 ⟨rfl, E9⟩
   have HE9 : Hid (Ext w w9) := Ext.trans HE.out E9
   clear E9
   go_wp2_with fail
   go_ret
   exact ⟨rfl, HE9.out⟩

set_option maxRecDepth 100000 in
theorem lifted (os : Os) (started : os.Started) (H : Type) (enc : TypeId × Value → H) :
   ReturnsInHanded {} Try.checked os 8 .any (Rows.moveRowsSpec.pre6 enc Try.prog Try.f8 Rows.moveRowsRow.domain false) (Rows.moveRowsSpec.post enc Try.prog Try.f8 false true false false) := by
 refine returnsInHanded_of_change (C := Try.checked) own started (by kernel_rfl) Try.func8
   (ChangeSpec.witness6 (enc := enc) (C := Try.checked) false ⟨#[], #[.int .i64 0, .int .i64 0], []⟩ 8 (by kernel_rfl) (by kernel_rfl) (by kernel_rfl) (by kernel_rfl)) ?_
 intro W base args ds gs before hval0 hW hcnd _
 have hval : ∀ (j : Nat) t v, Try.f8.params[j]? = some t → args[j]? = some v → Value.okWide Try.prog W .any base t v := hval0
 have hW' := hW
 obtain ⟨p, q, hA0, hV, rfl, hfz, hnd⟩ := hW
 have hA : DataW.TrodAll enc Try.prog W 0 (fun _ => true) true Try.f8.params.toList args.toList ds p := hA0
 rw [Try.params8] at hA hval
 obtain ⟨v0, vs0, d0, ds0, p0, q0, hargs, rfl, rfl, h0, r0⟩ := trodAll_cons hA
 obtain ⟨v1, vs1, d1, ds1, p1, q1, rfl, rfl, rfl, h1, r1⟩ := trodAll_cons r0
 obtain ⟨rfl, rfl, rfl⟩ := trodAll_nil r1
 obtain rfl : args = #[v0, v1] := by cases args; simp_all
 obtain ⟨rfl, rfl⟩ := trodVars_none hV
 obtain ⟨a0, rfl, rfl, rfl, w0⟩ := open_int Try.underlying3 (hval 0 3 v0 rfl rfl) h0
 obtain ⟨a1, rfl, rfl, rfl, w1⟩ := open_int Try.underlying3 (hval 1 3 v1 rfl rfl) h1
 clear hA0 hval0
 simp only [List.append_nil] at hW'
 refine (walk a0 a1 w0 w1).mono fun e W' ⟨he, bel⟩ => ?_
 subst he
 exact ⟨_, rfl, _, _, _, [], [], [], hW', trodAll_mk1 (shut_bool Try.underlying4 _), (trodAll_cons_mk (shut_int Try.underlying3 w0) (trodAll_cons_mk (shut_int Try.underlying3 w1) trodAll_mk0)), rfl, Below.frame bel _, fun h => by cases h⟩

theorem over : Rows.moveRowsRow.holds Try.pinned (OpenSpec.ofChange Rows.moveRowsSpec) :=
 OpenClaim.holds_of_wide 8 Try.f8 rfl rfl rfl rfl rfl rfl rfl ⟨rfl, rfl, rfl, rfl, rfl⟩ rfl rfl rfl rfl rfl (by kernel_rfl) Try.func8 (by kernel_rfl)
   (of_decide_eq_true (by kernel_rfl)) (by unfold Func.isWrapper; first | (rw [if_pos (by decide +kernel)]; kernel_rfl) | (rw [if_neg (by decide +kernel)]; exact ⟨rfl, rfl⟩))
   (fun os started H enc _ => lifted os started H enc)

theorem proved : Rows.MoveRowsSaid := over
end Go.Proofs.Ytcggiljlilbdfaa.moveRows
namespace Go.Proofs.Ytcggiljlilbdfaa
theorem moveRows_holds : Rows.MoveRowsSaid := moveRows.proved
end Go.Proofs.Ytcggiljlilbdfaa
