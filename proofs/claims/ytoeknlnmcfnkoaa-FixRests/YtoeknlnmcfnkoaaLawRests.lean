/-
  FixRests is proved: for every pair of int64 the call returns true and the arguments read as they did. No condition.
-/
import Derived.Test.YtoeknlnmcfnkoaaFixG
import Derived.ProofKit
import Derived.OpenShut
import Derived.ChangeOld
namespace Go.Proofs.Ytoeknlnmcfnkoaa.fixRests
open Go.ChangeShapes Go.WideShapes Go.ChangeAt Go.RowKit
set_option maxHeartbeats 1000000

theorem own : ownKnob Try.prog.godebug = none := by kernel_rfl

theorem mod_sign (a b : Int) (hb : b ≠ 0) (h : fm a b ≠ 0) : (decide (fm a b < 0) == decide (b < 0)) = true ∧ absI (fm a b) < absI b := by
  have := fm_bd a b hb
  generalize fm a b = p at *
  by_cases hp : 0 < b
  · have := this.1 hp
    have d1 : decide (p < 0) = false := by simp; omega
    have d2 : decide (b < 0) = false := by simp; omega
    rw [d1, d2]
    exact ⟨rfl, by unfold absI; rw [if_neg (by omega), if_neg (by omega)]; omega⟩
  · have := this.2 (by omega)
    have d1 : decide (p < 0) = true := by simp; omega
    have d2 : decide (b < 0) = true := by simp; omega
    rw [d1, d2]
    exact ⟨rfl, by unfold absI; rw [if_pos (by omega), if_pos (by omega)]; omega⟩
theorem modV_bd (a b : Int) (hb : I64 b) : I64 (modV a b) := by
  unfold modV modB
  split
  · rename_i h
    simp at h
    have := fm_bd a b h.2
    obtain ⟨_, _⟩ := hb
    generalize fm a b = p at *
    by_cases hp : 0 < b
    · have := this.1 hp; exact ⟨by omega, by omega⟩
    · have := this.2 (by omega); exact ⟨by omega, by omega⟩
  · exact ⟨by omega, by omega⟩

theorem walk (a0 : Int) (a1 : Int) (w0 : (Lit.int .i64 a0).wf = true) (w1 : (Lit.int .i64 a1).wf = true) (w : World) :
    Calls Try.prog 7 #[.int .i64 a0, .int .i64 a1] w fun e w' => e = .returned (.bool true) ∧ Ext w w' := by
  have ha := i64_of_wf w0
  have hb := i64_of_wf w1
  have c1 := fun W => mod_any a0 a1 ha hb W
  have c2 := fun W => rmod_any a0 a1 ha hb W
  have c3 := fun W => rsize_any (modV a0 a1) (modV_bd a0 a1 hb) W
  have c4 := fun W => rsize_any a1 hb W
  clear w0 w1
  by_cases hm : modB a0 a1 = true
  · have hz : a1 ≠ 0 := by intro h; unfold modB at hm; simp [h] at hm
    have hs := mod_sign a0 a1 hz
    have hv : modV a0 a1 = fm a0 a1 := by unfold modV; rw [hm]; rfl
    rw [← hv] at hs
    rw [hm] at c1 c2
    generalize modV a0 a1 = p at *
    clear hm hv hz ha hb
    by_cases hp : p = 0
    · subst hp
      clear hs
      go_enter Try.func7, Try.ntmps7
      go_wp2_with fail
      refine (c1 _).mono ?_
      rintro e w1 ⟨rfl, E1⟩
      go_wp2_with fail
      refine (c2 _).mono ?_
      rintro e w2 ⟨rfl, rfl⟩
      go_wp2_with fail
      refine (lives_any _).mono ?_
      rintro e w6 ⟨rfl, E6⟩
      go_wp2
      go_ret
      exact ⟨rfl, E1.trans E6⟩
    · obtain ⟨s1, s2⟩ := hs hp
      have p1 : (p == 0) = false := by simp [hp]
      clear hs hp
      go_enter Try.func7, Try.ntmps7
      go_wp2_with fail
      refine (c1 _).mono ?_
      rintro e w1 ⟨rfl, E1⟩
      go_wp2_with fail
      refine (c2 _).mono ?_
      rintro e w2 ⟨rfl, rfl⟩
      go_wp2_with fail
      refine (c3 _).mono ?_
      rintro e w3 ⟨rfl, rfl⟩
      go_wp2_with fail
      refine (c4 _).mono ?_
      rintro e w4 ⟨rfl, rfl⟩
      go_wp2_with fail
      refine (lives_any _).mono ?_
      rintro e w6 ⟨rfl, E6⟩
      go_wp2
      go_ret
      exact ⟨rfl, E1.trans E6⟩
  · have hm' : modB a0 a1 = false := by simpa using hm
    rw [hm'] at c1 c2
    generalize modV a0 a1 = p at *
    clear hm hm' ha hb
    go_enter Try.func7, Try.ntmps7
    go_wp2_with fail
    refine (c1 _).mono ?_
    rintro e w1 ⟨rfl, E1⟩
    go_wp2_with fail
    refine (c2 _).mono ?_
    rintro e w2 ⟨rfl, rfl⟩
    go_wp2_with fail
    refine (lives_any _).mono ?_
    rintro e w6 ⟨rfl, E6⟩
    go_wp2
    go_ret
    exact ⟨rfl, E1.trans E6⟩
set_option maxRecDepth 100000 in
theorem lifted (os : Os) (started : os.Started) (H : Type) (enc : TypeId × Value → H) :
    ReturnsInHanded {} Try.checked os 7 .any (Rows.fixRestsSpec.pre6 enc Try.prog Try.f7 Rows.fixRestsRow.domain false) (Rows.fixRestsSpec.post enc Try.prog Try.f7 false true false false) := by
  refine returnsInHanded_of_change (C := Try.checked) own started (by kernel_rfl) Try.func7
    (ChangeSpec.witness6 (enc := enc) (C := Try.checked) false ⟨#[], #[.int .i64 0, .int .i64 0], []⟩ 8 (by kernel_rfl) (by kernel_rfl) (by kernel_rfl) (by kernel_rfl)) ?_
  intro W base args ds gs before hval0 hW hcnd _
  have hval : ∀ (j : Nat) t v, Try.f7.params[j]? = some t → args[j]? = some v → Value.okWide Try.prog W .any base t v := hval0
  have hW' := hW
  obtain ⟨p, q, hA0, hV, rfl, hfz, hnd⟩ := hW
  have hA : DataW.TrodAll enc Try.prog W 0 (fun _ => true) true Try.f7.params.toList args.toList ds p := hA0
  rw [Try.params7] at hA hval
  obtain ⟨v0, vs0, d0, ds0, p0, q0, hargs, rfl, rfl, h0, r0⟩ := trodAll_cons hA
  obtain ⟨v1, vs1, d1, ds1, p1, q1, rfl, rfl, rfl, h1, r1⟩ := trodAll_cons r0
  obtain ⟨rfl, rfl, rfl⟩ := trodAll_nil r1
  obtain rfl : args = #[v0, v1] := by cases args; simp_all
  obtain ⟨rfl, rfl⟩ := trodVars_none hV
  obtain ⟨a0, rfl, rfl, rfl, w0⟩ := open_int Try.underlying2 (hval 0 2 v0 rfl rfl) h0
  obtain ⟨a1, rfl, rfl, rfl, w1⟩ := open_int Try.underlying2 (hval 1 2 v1 rfl rfl) h1
  clear hA0 hval0
  simp only [List.append_nil] at hW'
  refine (walk a0 a1 w0 w1 W).mono fun e W' ⟨he, bel⟩ => ?_
  subst he
  exact ⟨_, rfl, _, _, _, [], [], [], hW', trodAll_mk1 (shut_bool Try.underlying4 _), (trodAll_cons_mk (shut_int Try.underlying2 w0) (trodAll_cons_mk (shut_int Try.underlying2 w1) trodAll_mk0)), rfl, Below.frame bel _, fun h => by cases h⟩

theorem over : Rows.fixRestsRow.holds Try.pinned (OpenSpec.ofChange Rows.fixRestsSpec) :=
  OpenClaim.holds_of_wide 7 Try.f7 rfl rfl rfl rfl rfl rfl rfl ⟨rfl, rfl, rfl, rfl, rfl⟩ rfl rfl rfl rfl rfl (by kernel_rfl) Try.func7 (by kernel_rfl)
    (of_decide_eq_true (by kernel_rfl)) (by unfold Func.isWrapper; first | (rw [if_pos (by decide +kernel)]; kernel_rfl) | (rw [if_neg (by decide +kernel)]; exact ⟨rfl, rfl⟩))
    (fun os started H enc _ => lifted os started H enc)

theorem proved : Rows.FixRestsSaid := over
end Go.Proofs.Ytoeknlnmcfnkoaa.fixRests
namespace Go.Proofs.Ytoeknlnmcfnkoaa
theorem fixRests_holds : Rows.FixRestsSaid := fixRests.proved
end Go.Proofs.Ytoeknlnmcfnkoaa
