/-
  FixSums is proved: for every pair of int64 the call returns true and the arguments read as they did. No condition.
-/
import Derived.Test.YtoeknlnmcfnkoaaFixD
import Derived.Test.YtoeknlnmcfnkoaaFixF
import Derived.ProofKit
import Derived.OpenShut
import Derived.ChangeOld
namespace Go.Proofs.Ytoeknlnmcfnkoaa.fixSums
open Go.ChangeShapes Go.WideShapes Go.ChangeAt Go.RowKit
set_option maxHeartbeats 1000000

theorem own : ownKnob Try.prog.godebug = none := by kernel_rfl

theorem addV_bd (a b : Int) : I64 (addV a b) := by
  unfold addV addB
  split
  · rename_i h
    simp only [Bool.and_eq_true] at h
    have := h.2
    unfold fitB at this
    simp at this
    exact ⟨by omega, by omega⟩
  · exact ⟨by omega, by omega⟩
theorem back_yes (a b : Int) (ha : I64 a) (h : addB a b = true) : subV (addV a b) b = a ∧ subB (addV a b) b = true := by
  have e : addV a b = a + b := by unfold addV; rw [h]; rfl
  rw [e]
  unfold addB at h
  simp only [Bool.and_eq_true] at h
  obtain ⟨⟨h1, h2⟩, h3⟩ := h
  have h4 : subB (a + b) b = true := by
    unfold subB
    rw [h2, show a + b - b = a from by omega]
    unfold fitB at h3
    simp at h3
    unfold canB at h1
    simp at h1
    obtain ⟨_, _⟩ := ha
    unfold canB fitB
    simp
    omega
  refine ⟨?_, h4⟩
  unfold subV
  rw [h4]
  simp only [if_true]
  omega

theorem walk (a0 : Int) (a1 : Int) (w0 : (Lit.int .i64 a0).wf = true) (w1 : (Lit.int .i64 a1).wf = true) (w : World) :
    Calls Try.prog 3 #[.int .i64 a0, .int .i64 a1] w fun e w' => e = .returned (.bool true) ∧ Ext w w' := by
  have ha := i64_of_wf w0
  have hb := i64_of_wf w1
  have c1 := fun W => add_any a0 a1 ha hb W
  have c2 := fun W => radd_any a0 a1 ha hb W
  have c3 := fun W => sub_any a0 a1 ha hb W
  have c4 := fun W => rsub_any a0 a1 ha hb W
  have c5 := fun W => sub_any (addV a0 a1) a1 (addV_bd a0 a1) hb W
  have hy := back_yes a0 a1 ha
  clear w0 w1 ha hb
  generalize addV a0 a1 = s at *
  generalize hok : addB a0 a1 = ok at *
  clear hok
  cases ok
  · clear hy
    go_enter Try.func3, Try.ntmps3
    go_wp2_with fail
    refine (c1 _).mono ?_
    rintro e w1 ⟨rfl, E1⟩
    go_wp2_with fail
    refine (c2 _).mono ?_
    rintro e w2 ⟨rfl, E2⟩
    go_wp2_with fail
    refine (c3 _).mono ?_
    rintro e w3 ⟨rfl, E3⟩
    go_wp2_with fail
    refine (c4 _).mono ?_
    rintro e w4 ⟨rfl, E4⟩
    go_wp2_with (first
      | (go_at_call 13; refine (can_any _ _).mono ?_; rintro e w' ⟨rfl, rfl⟩)
      | (go_at_call 14; refine (rcan_any _ _).mono ?_; rintro e w' ⟨rfl, rfl⟩))
    refine (c5 _).mono ?_
    rintro e w5 ⟨rfl, E5⟩
    go_wp2_with fail
    refine (lives_any _).mono ?_
    rintro e w6 ⟨rfl, E6⟩
    go_wp2
    go_ret
    exact ⟨rfl, (E1.trans E2).trans ((E3.trans E4).trans (E5.trans E6))⟩
  · obtain ⟨hy1, hy2⟩ := hy rfl
    rw [hy1, hy2] at c5
    clear hy hy1 hy2
    go_enter Try.func3, Try.ntmps3
    go_wp2_with fail
    refine (c1 _).mono ?_
    rintro e w1 ⟨rfl, E1⟩
    go_wp2_with fail
    refine (c2 _).mono ?_
    rintro e w2 ⟨rfl, E2⟩
    go_wp2_with fail
    refine (c3 _).mono ?_
    rintro e w3 ⟨rfl, E3⟩
    go_wp2_with fail
    refine (c4 _).mono ?_
    rintro e w4 ⟨rfl, E4⟩
    go_wp2_with (first
      | (go_at_call 13; refine (can_any _ _).mono ?_; rintro e w' ⟨rfl, rfl⟩)
      | (go_at_call 14; refine (rcan_any _ _).mono ?_; rintro e w' ⟨rfl, rfl⟩))
    refine (c5 _).mono ?_
    rintro e w5 ⟨rfl, E5⟩
    go_wp2_with fail
    refine (lives_any _).mono ?_
    rintro e w6 ⟨rfl, E6⟩
    go_wp2
    go_ret
    exact ⟨rfl, (E1.trans E2).trans ((E3.trans E4).trans (E5.trans E6))⟩
set_option maxRecDepth 100000 in
theorem lifted (os : Os) (started : os.Started) (H : Type) (enc : TypeId × Value → H) :
    ReturnsInHanded {} Try.checked os 3 .any (Rows.fixSumsSpec.pre6 enc Try.prog Try.f3 Rows.fixSumsRow.domain false) (Rows.fixSumsSpec.post enc Try.prog Try.f3 false true false false) := by
  refine returnsInHanded_of_change (C := Try.checked) own started (by kernel_rfl) Try.func3
    (ChangeSpec.witness6 (enc := enc) (C := Try.checked) false ⟨#[], #[.int .i64 0, .int .i64 0], []⟩ 8 (by kernel_rfl) (by kernel_rfl) (by kernel_rfl) (by kernel_rfl)) ?_
  intro W base args ds gs before hval0 hW hcnd _
  have hval : ∀ (j : Nat) t v, Try.f3.params[j]? = some t → args[j]? = some v → Value.okWide Try.prog W .any base t v := hval0
  have hW' := hW
  obtain ⟨p, q, hA0, hV, rfl, hfz, hnd⟩ := hW
  have hA : DataW.TrodAll enc Try.prog W 0 (fun _ => true) true Try.f3.params.toList args.toList ds p := hA0
  rw [Try.params3] at hA hval
  obtain ⟨v0, vs0, d0, ds0, p0, q0, hargs, rfl, rfl, h0, r0⟩ := trodAll_cons hA
  obtain ⟨v1, vs1, d1, ds1, p1, q1, rfl, rfl, rfl, h1, r1⟩ := trodAll_cons r0
  obtain ⟨rfl, rfl, rfl⟩ := trodAll_nil r1
  obtain rfl : args = #[v0, v1] := by cases args; simp_all
  obtain ⟨rfl, rfl⟩ := trodVars_none hV
  obtain ⟨a0, rfl, rfl, rfl, w0⟩ := open_int Try.underlying2 (hval 0 2 v0 rfl rfl) h0
  obtain ⟨a1, rfl, rfl, rfl, w1⟩ := open_int Try.underlying2 (hval 1 2 v1 rfl rfl) h1
  clear hA0 hval0
  simp only [List.append_nil] at hW'
  refine (walk a0 a1 w0 w1 W).mono fun e W' ⟨he, bel⟩ => ?_
  subst he
  exact ⟨_, rfl, _, _, _, [], [], [], hW', trodAll_mk1 (shut_bool Try.underlying4 _), (trodAll_cons_mk (shut_int Try.underlying2 w0) (trodAll_cons_mk (shut_int Try.underlying2 w1) trodAll_mk0)), rfl, Below.frame bel _, fun h => by cases h⟩

theorem over : Rows.fixSumsRow.holds Try.pinned (OpenSpec.ofChange Rows.fixSumsSpec) :=
  OpenClaim.holds_of_wide 3 Try.f3 rfl rfl rfl rfl rfl rfl rfl ⟨rfl, rfl, rfl, rfl, rfl⟩ rfl rfl rfl rfl rfl (by kernel_rfl) Try.func3 (by kernel_rfl)
    (of_decide_eq_true (by kernel_rfl)) (by unfold Func.isWrapper; first | (rw [if_pos (by decide +kernel)]; kernel_rfl) | (rw [if_neg (by decide +kernel)]; exact ⟨rfl, rfl⟩))
    (fun os started H enc _ => lifted os started H enc)

theorem proved : Rows.FixSumsSaid := over
end Go.Proofs.Ytoeknlnmcfnkoaa.fixSums
namespace Go.Proofs.Ytoeknlnmcfnkoaa
theorem fixSums_holds : Rows.FixSumsSaid := fixSums.proved
end Go.Proofs.Ytoeknlnmcfnkoaa
