/-
  RealTo is proved: for every int64 the call returns true and the argument reads as it did. No condition.
-/
import Derived.Test.YtbonaldlljdaoaaRealH
import Derived.ProofKit
import Derived.OpenShut
import Derived.ChangeOld
namespace Go.Proofs.Ytbonaldlljdaoaa.realTo
open Go.ChangeShapes Go.WideShapes Go.ChangeAt Go.RowKit
set_option maxHeartbeats 1000000

theorem own : ownKnob Try.prog.godebug = none := by kernel_rfl

set_option maxRecDepth 100000 in
theorem walk (a0 : Int) (w0 : (Lit.int .i64 a0).wf = true) (w : World) :
    Calls Try.prog 4 #[.int .i64 a0] w fun e w' => e = .returned (.bool true) ∧ Ext w w' := by
  have ha := i64_of_wf w0
  clear w0
  have cZ := fun W => rsize_any a0 ha W
  by_cases h : a0 = -9223372036854775808
  · subst h
    have cF := fun W => from_any 0 (by decide) W
    rw [show ((0 : Nat) : Int) = 0 from rfl] at cF
    rw [show absI (-9223372036854775808) = 9223372036854775808 from rfl] at cZ
    generalize fromV 0 = x at *
    generalize fromB 0 = p at *
    clear ha
    go_enter Try.func4, Try.ntmps4
    go_wp2_with fail
    refine (to_no _).mono ?_
    rintro e w1 ⟨rfl, E1⟩
    go_wp2_with fail
    refine (rto_no _).mono ?_
    rintro e w2 ⟨rfl, E2⟩
    go_wp2_with fail
    refine (cF _).mono ?_
    rintro e w3 ⟨rfl, E3⟩
    go_wp2_with fail
    refine (cZ _).mono ?_
    rintro e w4 ⟨rfl, rfl⟩
    go_wp2_with fail
    refine (lives_any _).mono ?_
    rintro e w5 ⟨rfl, E5⟩
    go_wp2
    go_ret
    exact ⟨rfl, (E1.trans E2).trans (E3.trans E5)⟩
  · have c1 := fun W => to_any a0 ha h W
    have c2 := fun W => rto_any a0 ha h W
    have hS : absI a0 = (a0.natAbs : Int) := by unfold absI; split <;> omega
    rw [hS] at cZ
    have HB : Hid (∀ b, IsTo a0 b → a0.natAbs < 4503599627370496 → fromB b = true ∧ fromV b = a0) := fun b h1 h2 => to_back h1 h2
    have HN : Hid (a0.natAbs ≤ 9223372036854775807) := by obtain ⟨_, _⟩ := ha; show a0.natAbs ≤ 9223372036854775807; omega
    clear hS h ha
    generalize a0.natAbs = n at *
    go_enter Try.func4, Try.ntmps4
    go_wp2_with fail
    refine (c1 _).mono ?_
    rintro e w1 ⟨⟨b, rfl, hb⟩, E1⟩
    go_wp2_with fail
    refine (c2 _).mono ?_
    rintro e w2 ⟨⟨c, rfl, hc⟩, E2⟩
    obtain rfl : b = c := to_one hb hc
    have hbl : b < 18446744073709551616 := by
      rcases hb with ⟨_, h2⟩ | ⟨_, h2⟩ | ⟨_, r, h2, h3⟩
      · omega
      · have := rung_lt h2; omega
      · have := rung_lt h2; omega
    have cF := fun W => from_any b hbl W
    have hbk := HB.out b hb
    clear hc hb hbl HB c1 c2
    by_cases g : n < 4503599627370496
    · obtain ⟨k1, k2⟩ := hbk g
      rw [k1, k2] at cF
      have gI : decide ((4503599627370496 : Int) ≤ (n : Int)) = false := by simp; omega
      clear k1 k2 hbk g
      go_wp2_with fail
      refine (cF _).mono ?_
      rintro e w3 ⟨rfl, E3⟩
      go_wp2_with fail
      refine (cZ _).mono ?_
      rintro e w4 ⟨rfl, rfl⟩
      go_wp2_with fail
      refine (lives_any _).mono ?_
      rintro e w5 ⟨rfl, E5⟩
      go_wp2
      go_ret
      exact ⟨rfl, (E1.trans E2).trans (E3.trans E5)⟩
    · have gI : decide ((4503599627370496 : Int) ≤ (n : Int)) = true := by simp; omega
      generalize fromV b = x at *
      generalize fromB b = p at *
      clear hbk g
      go_wp2_with fail
      refine (cF _).mono ?_
      rintro e w3 ⟨rfl, E3⟩
      go_wp2_with fail
      refine (cZ _).mono ?_
      rintro e w4 ⟨rfl, rfl⟩
      go_wp2_with fail
      refine (lives_any _).mono ?_
      rintro e w5 ⟨rfl, E5⟩
      go_wp2
      go_ret
      exact ⟨rfl, (E1.trans E2).trans (E3.trans E5)⟩
set_option maxRecDepth 100000 in
theorem lifted (os : Os) (started : os.Started) (H : Type) (enc : TypeId × Value → H) :
    ReturnsInHanded {} Try.checked os 4 .any (Rows.realToSpec.pre6 enc Try.prog Try.f4 Rows.realToRow.domain false) (Rows.realToSpec.post enc Try.prog Try.f4 false true false false) := by
  refine returnsInHanded_of_change (C := Try.checked) own started (by kernel_rfl) Try.func4
    (ChangeSpec.witness6 (enc := enc) (C := Try.checked) false ⟨#[], #[.int .i64 0], []⟩ 8 (by kernel_rfl) (by kernel_rfl) (by kernel_rfl) (by kernel_rfl)) ?_
  intro W base args ds gs before hval0 hW hcnd _
  have hval : ∀ (j : Nat) t v, Try.f4.params[j]? = some t → args[j]? = some v → Value.okWide Try.prog W .any base t v := hval0
  have hW' := hW
  obtain ⟨p, q, hA0, hV, rfl, hfz, hnd⟩ := hW
  have hA : DataW.TrodAll enc Try.prog W 0 (fun _ => true) true Try.f4.params.toList args.toList ds p := hA0
  rw [Try.params4] at hA hval
  obtain ⟨v0, vs0, d0, ds0, p0, q0, hargs, rfl, rfl, h0, r0⟩ := trodAll_cons hA
  obtain ⟨rfl, rfl, rfl⟩ := trodAll_nil r0
  obtain rfl : args = #[v0] := by cases args; simp_all
  obtain ⟨rfl, rfl⟩ := trodVars_none hV
  obtain ⟨a0, rfl, rfl, rfl, w0⟩ := open_int Try.underlying2 (hval 0 2 v0 rfl rfl) h0
  clear hA0 hval0
  simp only [List.append_nil] at hW'
  refine (walk a0 w0 W).mono fun e W' ⟨he, bel⟩ => ?_
  subst he
  exact ⟨_, rfl, _, _, _, [], [], [], hW', trodAll_mk1 (shut_bool Try.underlying4 _), (trodAll_cons_mk (shut_int Try.underlying2 w0) trodAll_mk0), rfl, Below.frame bel _, fun h => by cases h⟩

theorem over : Rows.realToRow.holds Try.pinned (OpenSpec.ofChange Rows.realToSpec) :=
  OpenClaim.holds_of_wide 4 Try.f4 rfl rfl rfl rfl rfl rfl rfl ⟨rfl, rfl, rfl, rfl, rfl⟩ rfl rfl rfl rfl rfl (by kernel_rfl) Try.func4 (by kernel_rfl)
    (of_decide_eq_true (by kernel_rfl)) (by unfold Func.isWrapper; first | (rw [if_pos (by decide +kernel)]; kernel_rfl) | (rw [if_neg (by decide +kernel)]; exact ⟨rfl, rfl⟩))
    (fun os started H enc _ => lifted os started H enc)

theorem proved : Rows.RealToSaid := over
end Go.Proofs.Ytbonaldlljdaoaa.realTo
namespace Go.Proofs.Ytbonaldlljdaoaa
theorem realTo_holds : Rows.RealToSaid := realTo.proved
end Go.Proofs.Ytbonaldlljdaoaa
