/-
  FixSigns is proved: for every pair of int64 the call returns true and the arguments read as they did. No condition.
-/
import Derived.Test.YtoeknlnmcfnkoabFixD
import Derived.Test.YtoeknlnmcfnkoabFixF
import Derived.ProofKit
import Derived.OpenShut
import Derived.ChangeOld
namespace Go.Proofs.Ytoeknlnmcfnkoab.fixSigns
open Go.ChangeShapes Go.WideShapes Go.ChangeAt Go.RowKit
set_option maxHeartbeats 1000000

theorem own : ownKnob Try.prog.godebug = none := by kernel_rfl

theorem sgnV_turn (n : Nat) (x y : Bool) (h : x = !y ∨ n = 0) : sgnV x n = -(sgnV y n) := by
  unfold sgnV
  split
  · rcases h with h | h
    · subst h; cases y <;> simp
    · subst h; cases x <;> cases y <;> simp
  · rfl
theorem sgnV_bd (n : Nat) (x : Bool) : -9223372036854775807 ≤ sgnV x n ∧ sgnV x n ≤ 9223372036854775807 := by
  unfold sgnV sgnB
  split
  · rename_i h
    simp at h
    split <;> omega
  · omega
theorem near_nought (d : Nat) (h : 0 < d) : nearQ 0 d = 0 := by
  unfold nearQ
  rw [Nat.zero_div, Nat.zero_mod, if_neg (by omega)]
theorem rat_turn (a b c : Int) (hc : c ≠ 0) : sgnV (ratS a b c) (ratN a b c) = -(sgnV (ratS (-a) b c) (ratN (-a) b c)) := by
  have hn : ratN (-a) b c = ratN a b c := by unfold ratN; rw [Int.natAbs_neg]
  rw [hn]
  apply sgnV_turn
  by_cases h0 : a = 0
  · right; subst h0; unfold ratN; rw [Int.natAbs_zero, Nat.zero_mul]; exact near_nought _ (by omega)
  · left
    unfold ratS
    have : decide (-a < 0) = !decide (a < 0) := by
      by_cases h : a < 0
      · rw [decide_eq_true h, decide_eq_false (by omega)]; rfl
      · rw [decide_eq_false h, decide_eq_true (by omega)]; rfl
    rw [this]
    cases decide (a < 0) <;> cases decide (b < 0) <;> cases decide (c < 0) <;> rfl
theorem can_turn (a : Int) (ha : I64 a) (h : canB a = true) : I64 (-a) ∧ canB (-a) = true ∧ wrap64 (-a) = -a := by
  obtain ⟨_, _⟩ := ha
  unfold canB at h
  simp at h
  exact ⟨⟨by omega, by omega⟩, by unfold canB; simp; omega, by unfold wrap64; omega⟩
theorem mul_turn (a b : Int) (ha : I64 a) (h : canB a = true) : mulV a b = -(mulV (-a) b) ∧ mulB (-a) b = mulB a b := by
  have hk := (can_turn a ha h).2.1
  have hn : ratN (-a) b 10000 = ratN a b 10000 := by unfold ratN; rw [Int.natAbs_neg]
  unfold mulV mulB
  rw [h, hk, hn]
  refine ⟨?_, rfl⟩
  split
  · have := rat_turn a b 10000 (by omega); rw [hn] at this; exact this
  · rfl
theorem div_turn (a b : Int) (ha : I64 a) (h : canB a = true) : divV a b = -(divV (-a) b) ∧ divB (-a) b = divB a b := by
  have hk := (can_turn a ha h).2.1
  have hn : ratN (-a) 10000 b = ratN a 10000 b := by unfold ratN; rw [Int.natAbs_neg]
  unfold divV divB
  rw [h, hk, hn]
  refine ⟨?_, rfl⟩
  split
  · rename_i g
    simp at g
    have := rat_turn a 10000 b g.2; rw [hn] at this; exact this
  · rfl
theorem mulV_bd (a b : Int) : -9223372036854775807 ≤ mulV a b ∧ mulV a b ≤ 9223372036854775807 := by
  unfold mulV
  split
  · exact sgnV_bd _ _
  · omega
theorem divV_bd (a b : Int) : -9223372036854775807 ≤ divV a b ∧ divV a b ≤ 9223372036854775807 := by
  unfold divV
  split
  · exact sgnV_bd _ _
  · omega
theorem sub_turn (a b : Int) : subV a b = -(subV b a) ∧ subB b a = subB a b := by
  have h : subB b a = subB a b := by
    unfold subB fitB
    rw [Bool.and_comm (canB b) (canB a)]
    congr 1
    rw [Bool.eq_iff_iff]
    simp
    omega
  refine ⟨?_, h⟩
  unfold subV
  rw [h]
  split <;> omega
theorem subV_bd (a b : Int) : -9223372036854775807 ≤ subV a b ∧ subV a b ≤ 9223372036854775807 := by
  unfold subV subB fitB
  split
  · rename_i h
    simp at h
    omega
  · omega

theorem walk (a0 : Int) (a1 : Int) (w0 : (Lit.int .i64 a0).wf = true) (w1 : (Lit.int .i64 a1).wf = true) (w : World) :
    Calls Try.prog 3 #[.int .i64 a0, .int .i64 a1] w fun e w' => e = .returned (.bool true) ∧ Ext w w' := by
  have ha := i64_of_wf w0
  have hb := i64_of_wf w1
  clear w0 w1
  cases ka : canB a0
  · go_enter Try.func3, Try.ntmps3
    go_wp2_with (go_at_call 5; refine (rcan_any _ _).mono ?_; rintro e w' ⟨rfl, rfl⟩)
    refine (lives_any _).mono ?_
    rintro e w6 ⟨rfl, E6⟩
    go_wp2
    go_ret
    exact ⟨rfl, E6⟩
  cases kb : canB a1
  · go_enter Try.func3, Try.ntmps3
    go_wp2_with (go_at_call 5; refine (rcan_any _ _).mono ?_; rintro e w' ⟨rfl, rfl⟩)
    refine (lives_any _).mono ?_
    rintro e w6 ⟨rfl, E6⟩
    go_wp2
    go_ret
    exact ⟨rfl, E6⟩
  obtain ⟨i1, _, e1⟩ := can_turn a0 ha ka
  have c1 := fun W => mul_any a0 a1 ha hb W
  have c2 := fun W => mul_any (-a0) a1 i1 hb W
  have c3 := fun W => div_any a0 a1 ha hb W
  have c4 := fun W => div_any (-a0) a1 i1 hb W
  have c5 := fun W => sub_any a0 a1 ha hb W
  have c6 := fun W => sub_any a1 a0 hb ha W
  obtain ⟨m1, m2⟩ := mul_turn a0 a1 ha ka
  obtain ⟨d1, d2⟩ := div_turn a0 a1 ha ka
  obtain ⟨s1, s2⟩ := sub_turn a0 a1
  have b1 := mulV_bd (-a0) a1
  have b2 := divV_bd (-a0) a1
  have b3 := subV_bd a1 a0
  rw [m1] at c1; rw [m2] at c2; rw [d1] at c3; rw [d2] at c4; rw [s1] at c5; rw [s2] at c6
  clear m1 m2 d1 d2 s1 s2 i1
  generalize mulV (-a0) a1 = q at *
  generalize divV (-a0) a1 = s at *
  generalize subV a1 a0 = e0 at *
  have x1 : wrap64 (-q) = -q := by unfold wrap64; omega
  have x2 : wrap64 (-s) = -s := by unfold wrap64; omega
  have x3 : wrap64 (-e0) = -e0 := by unfold wrap64; omega
  obtain ⟨n1, n1'⟩ := ha
  clear b1 b2 b3 hb n1 n1'
  go_enter Try.func3, Try.ntmps3
  go_wp2_with (go_at_call 5; refine (rcan_any _ _).mono ?_; rintro e w' ⟨rfl, rfl⟩)
  refine (c1 _).mono ?_
  rintro e w1 ⟨rfl, E1⟩
  go_wp2_with fail
  refine (c2 _).mono ?_
  rintro e w2 ⟨rfl, E2⟩
  go_wp2_with fail
  refine (c3 _).mono ?_
  rintro e w3 ⟨rfl, E3⟩
  go_wp2_with fail
  refine (c4 _).mono ?_
  rintro e w4 ⟨rfl, E4⟩
  go_wp2_with fail
  refine (c5 _).mono ?_
  rintro e w5 ⟨rfl, E5⟩
  go_wp2_with fail
  refine (c6 _).mono ?_
  rintro e w6 ⟨rfl, E6⟩
  go_wp2_with fail
  refine (lives_any _).mono ?_
  rintro e w7 ⟨rfl, E7⟩
  go_wp2
  go_ret
  exact ⟨rfl, (E1.trans E2).trans ((E3.trans E4).trans ((E5.trans E6).trans E7))⟩
set_option maxRecDepth 100000 in
theorem lifted (os : Os) (started : os.Started) (H : Type) (enc : TypeId × Value → H) :
    ReturnsInHanded {} Try.checked os 3 .any (Rows.fixSignsSpec.pre6 enc Try.prog Try.f3 Rows.fixSignsRow.domain false) (Rows.fixSignsSpec.post enc Try.prog Try.f3 false true false false) := by
  refine returnsInHanded_of_change (C := Try.checked) own started (by kernel_rfl) Try.func3
    (ChangeSpec.witness6 (enc := enc) (C := Try.checked) false ⟨#[], #[.int .i64 0, .int .i64 0], []⟩ 8 (by kernel_rfl) (by kernel_rfl) (by kernel_rfl) (by kernel_rfl)) ?_
  intro W base args ds gs before hval0 hW hcnd _
  have hval : ∀ (j : Nat) t v, Try.f3.params[j]? = some t → args[j]? = some v → Value.okWide Try.prog W .any base t v := hval0
  have hW' := hW
  obtain ⟨p, q, hA0, hV, rfl, hfz, hnd⟩ := hW
  have hA : DataW.TrodAll enc Try.prog W 0 (fun _ => true) true Try.f3.params.toList args.toList ds p := hA0
  rw [Try.params3] at hA hval
  obtain ⟨v0, vs0, d0, ds0, p0, q0, hargs, rfl, rfl, h0, r0⟩ := trodAll_cons hA
  obtain ⟨v1, vs1, d1, ds1, p1, q1, rfl, rfl, rfl, h1, r1⟩ := trodAll_cons r0
  obtain ⟨rfl, rfl, rfl⟩ := trodAll_nil r1
  obtain rfl : args = #[v0, v1] := by cases args; simp_all
  obtain ⟨rfl, rfl⟩ := trodVars_none hV
  obtain ⟨a0, rfl, rfl, rfl, w0⟩ := open_int Try.underlying2 (hval 0 2 v0 rfl rfl) h0
  obtain ⟨a1, rfl, rfl, rfl, w1⟩ := open_int Try.underlying2 (hval 1 2 v1 rfl rfl) h1
  clear hA0 hval0
  simp only [List.append_nil] at hW'
  refine (walk a0 a1 w0 w1 W).mono fun e W' ⟨he, bel⟩ => ?_
  subst he
  exact ⟨_, rfl, _, _, _, [], [], [], hW', trodAll_mk1 (shut_bool Try.underlying4 _), (trodAll_cons_mk (shut_int Try.underlying2 w0) (trodAll_cons_mk (shut_int Try.underlying2 w1) trodAll_mk0)), rfl, Below.frame bel _, fun h => by cases h⟩

theorem over : Rows.fixSignsRow.holds Try.pinned (OpenSpec.ofChange Rows.fixSignsSpec) :=
  OpenClaim.holds_of_wide 3 Try.f3 rfl rfl rfl rfl rfl rfl rfl ⟨rfl, rfl, rfl, rfl, rfl⟩ rfl rfl rfl rfl rfl (by kernel_rfl) Try.func3 (by kernel_rfl)
    (of_decide_eq_true (by kernel_rfl)) (by unfold Func.isWrapper; first | (rw [if_pos (by decide +kernel)]; kernel_rfl) | (rw [if_neg (by decide +kernel)]; exact ⟨rfl, rfl⟩))
    (fun os started H enc _ => lifted os started H enc)

theorem proved : Rows.FixSignsSaid := over
end Go.Proofs.Ytoeknlnmcfnkoab.fixSigns
namespace Go.Proofs.Ytoeknlnmcfnkoab
theorem fixSigns_holds : Rows.FixSignsSaid := fixSigns.proved
end Go.Proofs.Ytoeknlnmcfnkoab
