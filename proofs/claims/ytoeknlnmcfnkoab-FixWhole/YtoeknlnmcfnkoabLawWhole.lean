/-
  FixWhole is proved: for every int64 and every uint8 the call returns true and the arguments read as they did. No condition.
-/
import Derived.Test.YtoeknlnmcfnkoabFixR
import Derived.ProofKit
import Derived.OpenShut
import Derived.ChangeOld
namespace Go.Proofs.Ytoeknlnmcfnkoab.fixWhole
open Go.ChangeShapes Go.WideShapes Go.ChangeAt Go.RowKit
set_option maxHeartbeats 1000000

theorem own : ownKnob Try.prog.godebug = none := by kernel_rfl

theorem near_off (A P : Nat) (h : 0 < P) : (A ≤ nearQ A P * P ∧ nearQ A P * P - A ≤ P / 2) ∨ (nearQ A P * P < A ∧ A - nearQ A P * P ≤ P / 2) := by
  obtain ⟨n1, n2⟩ := near_mul A P
  have hdm := Nat.div_add_mod A P
  have hml := Nat.mod_lt A h
  rw [Nat.mul_comm] at hdm
  generalize nearQ A P * P = N at *
  generalize A / P * P = T at *
  generalize A % P = R at *
  by_cases g : P ≤ 2 * R
  · have := n1 g
    omega
  · have := n2 g
    omega
theorem tmod_mul (x : Bool) (q P : Nat) (h : q * P ≤ 9223372036854775807) : (sgnV x (q * P)).tmod P = 0 := by
  rw [sgnV_yes x h]
  cases x
  · rw [if_neg (by decide), Int.natCast_mul, Int.mul_tmod_left]
  · rw [if_pos rfl, Int.natCast_mul, Int.neg_tmod, Int.mul_tmod_left]; rfl
/-- What is told of a number rounded to P. -/
def Near (a r : Int) (P : Nat) : Prop := r.tmod P = 0 ∧ ((a ≤ r ∧ r - a ≤ (P : Int) / 2) ∨ (r < a ∧ a - r ≤ (P : Int) / 2))
theorem near_rnd (a : Int) (P : Nat) (hP : 0 < P) (h : nearQ a.natAbs P * P ≤ 9223372036854775807) : Near a (sgnV (decide (a < 0)) (nearQ a.natAbs P * P)) P := by
  refine ⟨tmod_mul _ _ _ h, ?_⟩
  rw [sgnV_yes _ h]
  have := near_off a.natAbs P hP
  generalize nearQ a.natAbs P * P = N at *
  by_cases g : a < 0
  · rw [decide_eq_true g, if_pos rfl]; omega
  · rw [decide_eq_false g, if_neg (by decide)]; omega
theorem near_same (a : Int) : Near a a 1 := by
  refine ⟨?_, by omega⟩
  rw [tmod_abs]
  split <;> (rw [Nat.mod_one]; rfl)
theorem rnd_near (a : Int) (D : Nat) (hD : D ≤ 4) (h : rndB a D = true) (hc : canB a = true) : Near a (rndV a D) (10 ^ (4 - D)) := by
  by_cases h4 : D = 4
  · subst h4
    have : rndV a ((4 : Nat) : Int) = a := by unfold rndV; rw [hc]; rfl
    rw [this]
    exact near_same a
  · have d1 : ¬ (4 : Int) ≤ (D : Int) := by omega
    have d2 : ¬ (D : Int) < -14 := by omega
    have e : (4 - (D : Int)).toNat = 4 - D := by omega
    have hV : rndV a D = sgnV (decide (a < 0)) (rndN a D) := by unfold rndV; rw [hc, if_pos rfl, if_neg d1, if_neg d2]
    have hB : sgnB (rndN a D) = true := by unfold rndB at h; rw [hc, decide_eq_false d1, decide_eq_false d2] at h; simpa using h
    unfold rndN rndP at hV hB
    rw [e] at hV hB
    rw [hV]
    exact near_rnd a _ (ten_pos _) (by unfold sgnB at hB; simpa using hB)
theorem rndV_bd (a d : Int) (ha : I64 a) : I64 (rndV a d) := by
  unfold rndV
  obtain ⟨_, _⟩ := ha
  split
  · split
    · exact ⟨by omega, by omega⟩
    · split
      · exact ⟨by omega, by omega⟩
      · unfold sgnV sgnB
        split
        · rename_i h
          simp at h
          split
          · exact ⟨by omega, by omega⟩
          · exact ⟨by omega, by omega⟩
        · exact ⟨by omega, by omega⟩
  · exact ⟨by omega, by omega⟩
theorem floor_back (a : Int) (h : floorB a = true) : canB a = true ∧ floorV a + a % 10000 = a := by
  unfold floorB at h
  simp only [Bool.and_eq_true] at h
  refine ⟨h.1, ?_⟩
  unfold floorV subV
  rw [h.1, h.2]
  simp only [if_true]
  omega

/-- What follows behind Round, of a number rounded. -/
theorem walk (a0 : Int) (a1 : Int) (w0 : (Lit.int .i64 a0).wf = true) (w1 : (Lit.int .u8 a1).wf = true) (w : World) :
    Calls Try.prog 4 #[.int .i64 a0, .int .u8 a1] w fun e w' => e = .returned (.bool true) ∧ Ext w w' := by
  have ha := i64_of_wf w0
  obtain ⟨u1, u2⟩ := u8_of_wf w1
  clear w0 w1
  obtain ⟨D, hD⟩ : ∃ D : Nat, (D : Int) = a1 % 5 := ⟨(a1 % 5).toNat, by omega⟩
  have hD4 : D ≤ 4 := by omega
  have e1 : a1.tmod 5 = (D : Int) := by rw [tmod_pos _ _ u1]; exact hD.symm
  have e1' : a1 % 5 = (D : Int) := hD.symm
  have c1 := fun W => floor_any a0 ha W
  have c2 := fun W => mod_any a0 10000 ha ⟨by omega, by omega⟩ W
  have c3 := fun W => round_any a0 (D : Int) ha W
  have c5 := fun W => rpower_any (4 - D) (by omega) W
  have e5 : (4 : Int) - (D : Int) = ((4 - D : Nat) : Int) := by omega
  rw [modB_one] at c2
  have hn := rnd_near a0 D hD4
  have rb := rndV_bd a0 D ha
  have hfb := floor_back a0
  have pb : 10 ^ (4 - D) ≤ 10000 := Nat.pow_le_pow_right (n := 10) (by omega) (show 4 - D ≤ 4 by omega)
  have pb0 := ten_pos (4 - D)
  have hmv := modV_one a0
  have D4 : (D : Int) ≤ 4 := by omega
  clear hD hD4
  cases hc : canB a0
  · have hf : floorB a0 = false := by unfold floorB; rw [hc]; rfl
    have hr : rndB a0 D = false := by unfold rndB; rw [hc]; rfl
    rw [hf] at c1; rw [hc] at c2; rw [hr] at c3
    generalize floorV a0 = f at *
    generalize modV a0 10000 = m at *
    generalize rndV a0 D = r at *
    clear hn hfb hmv pb pb0 c5 e5 hf hr
    go_enter Try.func4, Try.ntmps4
    go_wp2_with fail
    refine (c1 _).mono ?_
    rintro e w1 ⟨rfl, E1⟩
    go_wp2_with fail
    refine (c2 _).mono ?_
    rintro e w2 ⟨rfl, E2⟩
    go_wp2_with fail
    refine (c3 _).mono ?_
    rintro e w3 ⟨rfl, E3⟩
    go_wp2_with fail
    refine (lives_any _).mono ?_
    rintro e w6 ⟨rfl, E6⟩
    go_wp2
    go_ret
    exact ⟨rfl, (E1.trans E2).trans (E3.trans E6)⟩
  rw [hc, hmv hc] at c2
  clear hmv
  cases hf : floorB a0
  all_goals
    rw [hf] at c1
    have fm1 : floorB a0 = true → floorV a0 + a0 % 10000 = a0 := fun h => (hfb h).2
    rw [hf] at fm1
    clear hfb hf
    generalize floorV a0 = f at *
    generalize a0 % 10000 = m at *
    cases hr : rndB a0 D
  · clear fm1
    rw [hr] at c3
    generalize rndV a0 D = r at *
    clear hn pb pb0 c5 e5 hr
    go_enter Try.func4, Try.ntmps4
    go_wp2_with fail
    refine (c1 _).mono ?_
    rintro e w1 ⟨rfl, E1⟩
    go_wp2_with fail
    refine (c2 _).mono ?_
    rintro e w2 ⟨rfl, E2⟩
    go_wp2_with fail
    refine (c3 _).mono ?_
    rintro e w3 ⟨rfl, E3⟩
    go_wp2_with fail
    refine (lives_any _).mono ?_
    rintro e w6 ⟨rfl, E6⟩
    go_wp2
    go_ret
    exact ⟨rfl, (E1.trans E2).trans (E3.trans E6)⟩
  · clear fm1
    obtain ⟨n1, n2⟩ := hn hr hc
    rw [hr] at c3
    generalize rndV a0 D = r at *
    generalize 10 ^ (4 - D) = P at *
    obtain ⟨r1, r2⟩ := rb
    obtain ⟨a1', a2'⟩ := ha
    have p1 : (P : Int) ≤ 10000 := by omega
    have p2 : (0 : Int) < (P : Int) := by omega
    have p3 : ¬ (P : Int) = 0 := by omega
    clear hn pb pb0 hr
    rcases n2 with ⟨n2, n3⟩ | ⟨n2, n3⟩
    · have n4 : ¬ r < a0 := by omega
      go_enter Try.func4, Try.ntmps4
      go_wp2_with fail
      refine (c1 _).mono ?_
      rintro e w1 ⟨rfl, E1⟩
      go_wp2_with fail
      refine (c2 _).mono ?_
      rintro e w2 ⟨rfl, E2⟩
      go_wp2_with fail
      refine (c3 _).mono ?_
      rintro e w3 ⟨rfl, E3⟩
      go_wp2_with fail
      refine (rcan_any _ _).mono ?_
      rintro e w4 ⟨rfl, rfl⟩
      go_wp2_with fail
      refine (c5 _).mono ?_
      rintro e w5 ⟨rfl, rfl⟩
      go_wp2_with fail
      refine (lives_any _).mono ?_
      rintro e w6 ⟨rfl, E6⟩
      go_wp2
      go_ret
      exact ⟨rfl, (E1.trans E2).trans (E3.trans E6)⟩
    · have n4 : ¬ a0 ≤ r := by omega
      go_enter Try.func4, Try.ntmps4
      go_wp2_with fail
      refine (c1 _).mono ?_
      rintro e w1 ⟨rfl, E1⟩
      go_wp2_with fail
      refine (c2 _).mono ?_
      rintro e w2 ⟨rfl, E2⟩
      go_wp2_with fail
      refine (c3 _).mono ?_
      rintro e w3 ⟨rfl, E3⟩
      go_wp2_with fail
      refine (rcan_any _ _).mono ?_
      rintro e w4 ⟨rfl, rfl⟩
      go_wp2_with fail
      refine (c5 _).mono ?_
      rintro e w5 ⟨rfl, rfl⟩
      go_wp2_with fail
      refine (lives_any _).mono ?_
      rintro e w6 ⟨rfl, E6⟩
      go_wp2
      go_ret
      exact ⟨rfl, (E1.trans E2).trans (E3.trans E6)⟩
  · have fm2 := fm1 rfl
    have fm3 : wrap64 (f + m) = a0 := by obtain ⟨_, _⟩ := ha; rw [fm2]; unfold wrap64; omega
    clear fm1
    obtain ⟨z1, z2⟩ := ha
    rw [hr] at c3
    generalize rndV a0 D = r at *
    clear hn pb pb0 c5 e5 hr
    go_enter Try.func4, Try.ntmps4
    go_wp2_with fail
    refine (c1 _).mono ?_
    rintro e w1 ⟨rfl, E1⟩
    go_wp2_with fail
    refine (c2 _).mono ?_
    rintro e w2 ⟨rfl, E2⟩
    go_wp2_with fail
    refine (c3 _).mono ?_
    rintro e w3 ⟨rfl, E3⟩
    go_wp2_with fail
    refine (lives_any _).mono ?_
    rintro e w6 ⟨rfl, E6⟩
    go_wp2
    go_ret
    exact ⟨rfl, (E1.trans E2).trans (E3.trans E6)⟩
  · have fm2 := fm1 rfl
    have fm3 : wrap64 (f + m) = a0 := by obtain ⟨_, _⟩ := ha; rw [fm2]; unfold wrap64; omega
    clear fm1
    obtain ⟨n1, n2⟩ := hn hr hc
    rw [hr] at c3
    generalize rndV a0 D = r at *
    generalize 10 ^ (4 - D) = P at *
    obtain ⟨r1, r2⟩ := rb
    obtain ⟨a1', a2'⟩ := ha
    have p1 : (P : Int) ≤ 10000 := by omega
    have p2 : (0 : Int) < (P : Int) := by omega
    have p3 : ¬ (P : Int) = 0 := by omega
    clear hn pb pb0 hr
    rcases n2 with ⟨n2, n3⟩ | ⟨n2, n3⟩
    · have n4 : ¬ r < a0 := by omega
      go_enter Try.func4, Try.ntmps4
      go_wp2_with fail
      refine (c1 _).mono ?_
      rintro e w1 ⟨rfl, E1⟩
      go_wp2_with fail
      refine (c2 _).mono ?_
      rintro e w2 ⟨rfl, E2⟩
      go_wp2_with fail
      refine (c3 _).mono ?_
      rintro e w3 ⟨rfl, E3⟩
      go_wp2_with fail
      refine (rcan_any _ _).mono ?_
      rintro e w4 ⟨rfl, rfl⟩
      go_wp2_with fail
      refine (c5 _).mono ?_
      rintro e w5 ⟨rfl, rfl⟩
      go_wp2_with fail
      refine (lives_any _).mono ?_
      rintro e w6 ⟨rfl, E6⟩
      go_wp2
      go_ret
      exact ⟨rfl, (E1.trans E2).trans (E3.trans E6)⟩
    · have n4 : ¬ a0 ≤ r := by omega
      go_enter Try.func4, Try.ntmps4
      go_wp2_with fail
      refine (c1 _).mono ?_
      rintro e w1 ⟨rfl, E1⟩
      go_wp2_with fail
      refine (c2 _).mono ?_
      rintro e w2 ⟨rfl, E2⟩
      go_wp2_with fail
      refine (c3 _).mono ?_
      rintro e w3 ⟨rfl, E3⟩
      go_wp2_with fail
      refine (rcan_any _ _).mono ?_
      rintro e w4 ⟨rfl, rfl⟩
      go_wp2_with fail
      refine (c5 _).mono ?_
      rintro e w5 ⟨rfl, rfl⟩
      go_wp2_with fail
      refine (lives_any _).mono ?_
      rintro e w6 ⟨rfl, E6⟩
      go_wp2
      go_ret
      exact ⟨rfl, (E1.trans E2).trans (E3.trans E6)⟩
set_option maxRecDepth 100000 in
theorem lifted (os : Os) (started : os.Started) (H : Type) (enc : TypeId × Value → H) :
    ReturnsInHanded {} Try.checked os 4 .any (Rows.fixWholeSpec.pre6 enc Try.prog Try.f4 Rows.fixWholeRow.domain false) (Rows.fixWholeSpec.post enc Try.prog Try.f4 false true false false) := by
  refine returnsInHanded_of_change (C := Try.checked) own started (by kernel_rfl) Try.func4
    (ChangeSpec.witness6 (enc := enc) (C := Try.checked) false ⟨#[], #[.int .i64 0, .int .u8 0], []⟩ 8 (by kernel_rfl) (by kernel_rfl) (by kernel_rfl) (by kernel_rfl)) ?_
  intro W base args ds gs before hval0 hW hcnd _
  have hval : ∀ (j : Nat) t v, Try.f4.params[j]? = some t → args[j]? = some v → Value.okWide Try.prog W .any base t v := hval0
  have hW' := hW
  obtain ⟨p, q, hA0, hV, rfl, hfz, hnd⟩ := hW
  have hA : DataW.TrodAll enc Try.prog W 0 (fun _ => true) true Try.f4.params.toList args.toList ds p := hA0
  rw [Try.params4] at hA hval
  obtain ⟨v0, vs0, d0, ds0, p0, q0, hargs, rfl, rfl, h0, r0⟩ := trodAll_cons hA
  obtain ⟨v1, vs1, d1, ds1, p1, q1, rfl, rfl, rfl, h1, r1⟩ := trodAll_cons r0
  obtain ⟨rfl, rfl, rfl⟩ := trodAll_nil r1
  obtain rfl : args = #[v0, v1] := by cases args; simp_all
  obtain ⟨rfl, rfl⟩ := trodVars_none hV
  obtain ⟨a0, rfl, rfl, rfl, w0⟩ := open_int Try.underlying2 (hval 0 2 v0 rfl rfl) h0
  obtain ⟨a1, rfl, rfl, rfl, w1⟩ := open_int Try.underlying5 (hval 1 5 v1 rfl rfl) h1
  clear hA0 hval0
  simp only [List.append_nil] at hW'
  refine (walk a0 a1 w0 w1 W).mono fun e W' ⟨he, bel⟩ => ?_
  subst he
  exact ⟨_, rfl, _, _, _, [], [], [], hW', trodAll_mk1 (shut_bool Try.underlying4 _), (trodAll_cons_mk (shut_int Try.underlying2 w0) (trodAll_cons_mk (shut_int Try.underlying5 w1) trodAll_mk0)), rfl, Below.frame bel _, fun h => by cases h⟩

theorem over : Rows.fixWholeRow.holds Try.pinned (OpenSpec.ofChange Rows.fixWholeSpec) :=
  OpenClaim.holds_of_wide 4 Try.f4 rfl rfl rfl rfl rfl rfl rfl ⟨rfl, rfl, rfl, rfl, rfl⟩ rfl rfl rfl rfl rfl (by kernel_rfl) Try.func4 (by kernel_rfl)
    (of_decide_eq_true (by kernel_rfl)) (by unfold Func.isWrapper; first | (rw [if_pos (by decide +kernel)]; kernel_rfl) | (rw [if_neg (by decide +kernel)]; exact ⟨rfl, rfl⟩))
    (fun os started H enc _ => lifted os started H enc)

theorem proved : Rows.FixWholeSaid := over
end Go.Proofs.Ytoeknlnmcfnkoab.fixWhole
namespace Go.Proofs.Ytoeknlnmcfnkoab
theorem fixWhole_holds : Rows.FixWholeSaid := fixWhole.proved
end Go.Proofs.Ytoeknlnmcfnkoab
