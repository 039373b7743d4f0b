/-
  FixRounds is proved: for every int64 and every int the call returns true and the arguments read as they did. No condition.
-/
import Derived.Test.YtoeknlnmcfnkoaaFixK
import Derived.ProofKit
import Derived.OpenShut
import Derived.ChangeOld
namespace Go.Proofs.Ytoeknlnmcfnkoaa.fixRounds
open Go.ChangeShapes Go.WideShapes Go.ChangeAt Go.RowKit
set_option maxHeartbeats 1000000

theorem own : ownKnob Try.prog.godebug = none := by kernel_rfl

theorem sgnV_abs (x : Bool) (n : Nat) (h : n ≤ 9223372036854775807) : (sgnV x n).natAbs = n := by
  rw [sgnV_yes x h]
  cases x
  · rw [if_neg (by decide)]; omega
  · rw [if_pos rfl]; omega
theorem sgnV_bd (n : Nat) (x : Bool) : -9223372036854775807 ≤ sgnV x n ∧ sgnV x n ≤ 9223372036854775807 := by
  unfold sgnV sgnB
  split
  · rename_i h
    simp at h
    split <;> omega
  · omega
theorem near_multiple (q P : Nat) (h : 0 < P) : nearQ (q * P) P * P = q * P := by
  have := (near_mul (q * P) P).2 (by rw [Nat.mul_mod_left]; omega)
  rw [this, Nat.mul_div_cancel _ h]
theorem rnd_mid (x d : Int) (hc : canB x = true) (d1 : ¬ 4 ≤ d) (d2 : ¬ d < -14) : rndV x d = sgnV (decide (x < 0)) (rndN x d) := by
  unfold rndV
  rw [hc, if_pos rfl, if_neg d1, if_neg d2]
/-- What is rounded is rounded again to itself. -/
theorem again (a d : Int) (h : rndB a d = true) : rndV (rndV a d) d = rndV a d ∧ rndB (rndV a d) d = true := by
  unfold rndB at h
  rw [Bool.and_eq_true] at h
  obtain ⟨hc, h⟩ := h
  by_cases d1 : 4 ≤ d
  · have e : rndV a d = a := by unfold rndV; rw [hc]; simp [d1]
    rw [e, e]
    refine ⟨rfl, ?_⟩
    unfold rndB; rw [hc]; simp [d1]
  by_cases d2 : d < -14
  · have e : rndV a d = 0 := by unfold rndV; rw [hc]; simp [d1, d2]
    have c0 : canB 0 = true := by decide
    rw [e]
    refine ⟨?_, ?_⟩
    · unfold rndV; rw [c0]; simp [d1, d2]
    · unfold rndB; rw [c0]; simp [d2]
  · rw [decide_eq_false d1, decide_eq_false d2, Bool.false_or, Bool.false_or] at h
    have hle : rndN a d ≤ 9223372036854775807 := by unfold sgnB at h; simpa using h
    have e : rndV a d = sgnV (decide (a < 0)) (rndN a d) := by unfold rndV; rw [hc]; simp [d1, d2]
    have hab := sgnV_abs (decide (a < 0)) (rndN a d) hle
    have hbd := sgnV_bd (rndN a d) (decide (a < 0))
    rw [← e] at hab hbd
    have hN : rndN (rndV a d) d = rndN a d := by
      unfold rndN
      rw [hab]
      unfold rndN
      exact near_multiple _ _ (by unfold rndP; exact ten_pos _)
    have ck : canB (rndV a d) = true := by unfold canB; rw [bne_iff_ne]; omega
    refine ⟨?_, ?_⟩
    · rw [rnd_mid (rndV a d) d ck d1 d2, hN, sgnV_yes _ hle]
      rw [sgnV_yes _ hle] at e
      have hx : rndV a d = -(rndN a d : Int) ∨ rndV a d = (rndN a d : Int) := by
        rw [e]
        split
        · exact Or.inl rfl
        · exact Or.inr rfl
      generalize rndV a d = x at *
      by_cases g : x < 0
      · rw [decide_eq_true g, if_pos rfl]; omega
      · rw [decide_eq_false g, if_neg (by simp)]; omega
    · unfold rndB
      rw [ck, hN, h]
      simp
theorem rndV_bd (a d : Int) (ha : I64 a) : I64 (rndV a d) := by
  unfold rndV
  obtain ⟨_, _⟩ := ha
  split
  · split
    · exact ⟨by omega, by omega⟩
    · split
      · exact ⟨by omega, by omega⟩
      · have := sgnV_bd (rndN a d) (decide (a < 0))
        exact ⟨by omega, by omega⟩
  · exact ⟨by omega, by omega⟩
theorem floor_is (a : Int) (h : floorB a = true) : (floorV a).tmod 10000 = 0 ∧ floorV a ≤ a := by
  unfold floorB at h
  simp only [Bool.and_eq_true] at h
  have e : floorV a = a - a % 10000 := by unfold floorV subV; rw [h.1, h.2]; rfl
  rw [e]
  refine ⟨?_, by omega⟩
  have : (a - a % 10000) = 10000 * (a / 10000) := by omega
  rw [this]
  exact Int.mul_tmod_right _ _

theorem walk (a0 : Int) (a1 : Int) (w0 : (Lit.int .i64 a0).wf = true) (_w1 : (Lit.int .i64 a1).wf = true) (w : World) :
    Calls Try.prog 6 #[.int .i64 a0, .int .i64 a1] w fun e w' => e = .returned (.bool true) ∧ Ext w w' := by
  have ha := i64_of_wf w0
  have c1 := fun W => floor_any a0 ha W
  have c2 := fun W => rfloor_any a0 ha W
  have c3 := fun W => round_any a0 a1 ha W
  have c4 := fun W => rround_any a0 a1 ha W
  have c5 := fun W => round_any (rndV a0 a1) a1 (rndV_bd a0 a1 ha) W
  have hf := floor_is a0
  have hg := again a0 a1
  clear w0 ha
  generalize rndV (rndV a0 a1) a1 = r2 at *
  generalize rndB (rndV a0 a1) a1 = k2 at *
  generalize rndV a0 a1 = r at *
  generalize rndB a0 a1 = can at *
  generalize floorV a0 = f at *
  generalize floorB a0 = ok at *
  cases ok <;> cases can
  all_goals
    first | (obtain ⟨f1, f2⟩ := hf rfl) | skip
    first | (obtain ⟨rfl, rfl⟩ := hg rfl) | skip
    clear hf hg
    go_enter Try.func6, Try.ntmps6
    go_wp2_with fail
    refine (c1 _).mono ?_
    rintro e w1 ⟨rfl, E1⟩
    go_wp2_with fail
    refine (c2 _).mono ?_
    rintro e w2 ⟨rfl, E2⟩
    go_wp2_with fail
    refine (c3 _).mono ?_
    rintro e w3 ⟨rfl, E3⟩
    go_wp2_with fail
    refine (c4 _).mono ?_
    rintro e w4 ⟨rfl, E4⟩
    go_wp2_with fail
    refine (c5 _).mono ?_
    rintro e w5 ⟨rfl, E5⟩
    go_wp2_with fail
    refine (lives_any _).mono ?_
    rintro e w6 ⟨rfl, E6⟩
    go_wp2
    go_ret
    exact ⟨rfl, (E1.trans E2).trans ((E3.trans E4).trans (E5.trans E6))⟩
set_option maxRecDepth 100000 in
theorem lifted (os : Os) (started : os.Started) (H : Type) (enc : TypeId × Value → H) :
    ReturnsInHanded {} Try.checked os 6 .any (Rows.fixRoundsSpec.pre6 enc Try.prog Try.f6 Rows.fixRoundsRow.domain false) (Rows.fixRoundsSpec.post enc Try.prog Try.f6 false true false false) := by
  refine returnsInHanded_of_change (C := Try.checked) own started (by kernel_rfl) Try.func6
    (ChangeSpec.witness6 (enc := enc) (C := Try.checked) false ⟨#[], #[.int .i64 0, .int .i64 0], []⟩ 8 (by kernel_rfl) (by kernel_rfl) (by kernel_rfl) (by kernel_rfl)) ?_
  intro W base args ds gs before hval0 hW hcnd _
  have hval : ∀ (j : Nat) t v, Try.f6.params[j]? = some t → args[j]? = some v → Value.okWide Try.prog W .any base t v := hval0
  have hW' := hW
  obtain ⟨p, q, hA0, hV, rfl, hfz, hnd⟩ := hW
  have hA : DataW.TrodAll enc Try.prog W 0 (fun _ => true) true Try.f6.params.toList args.toList ds p := hA0
  rw [Try.params6] at hA hval
  obtain ⟨v0, vs0, d0, ds0, p0, q0, hargs, rfl, rfl, h0, r0⟩ := trodAll_cons hA
  obtain ⟨v1, vs1, d1, ds1, p1, q1, rfl, rfl, rfl, h1, r1⟩ := trodAll_cons r0
  obtain ⟨rfl, rfl, rfl⟩ := trodAll_nil r1
  obtain rfl : args = #[v0, v1] := by cases args; simp_all
  obtain ⟨rfl, rfl⟩ := trodVars_none hV
  obtain ⟨a0, rfl, rfl, rfl, w0⟩ := open_int Try.underlying2 (hval 0 2 v0 rfl rfl) h0
  obtain ⟨a1, rfl, rfl, rfl, w1⟩ := open_int Try.underlying3 (hval 1 3 v1 rfl rfl) h1
  clear hA0 hval0
  simp only [List.append_nil] at hW'
  refine (walk a0 a1 w0 w1 W).mono fun e W' ⟨he, bel⟩ => ?_
  subst he
  exact ⟨_, rfl, _, _, _, [], [], [], hW', trodAll_mk1 (shut_bool Try.underlying4 _), (trodAll_cons_mk (shut_int Try.underlying2 w0) (trodAll_cons_mk (shut_int Try.underlying3 w1) trodAll_mk0)), rfl, Below.frame bel _, fun h => by cases h⟩

theorem over : Rows.fixRoundsRow.holds Try.pinned (OpenSpec.ofChange Rows.fixRoundsSpec) :=
  OpenClaim.holds_of_wide 6 Try.f6 rfl rfl rfl rfl rfl rfl rfl ⟨rfl, rfl, rfl, rfl, rfl⟩ rfl rfl rfl rfl rfl (by kernel_rfl) Try.func6 (by kernel_rfl)
    (of_decide_eq_true (by kernel_rfl)) (by unfold Func.isWrapper; first | (rw [if_pos (by decide +kernel)]; kernel_rfl) | (rw [if_neg (by decide +kernel)]; exact ⟨rfl, rfl⟩))
    (fun os started H enc _ => lifted os started H enc)

theorem proved : Rows.FixRoundsSaid := over
end Go.Proofs.Ytoeknlnmcfnkoaa.fixRounds
namespace Go.Proofs.Ytoeknlnmcfnkoaa
theorem fixRounds_holds : Rows.FixRoundsSaid := fixRounds.proved
end Go.Proofs.Ytoeknlnmcfnkoaa
