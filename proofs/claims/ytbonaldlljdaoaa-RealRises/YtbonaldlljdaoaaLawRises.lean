/-
  RealRises is proved: for every two uint64 and every two int64 the call returns true and the arguments read as they did. No condition.
-/
import Derived.Test.YtbonaldlljdaoaaRealF
import Derived.ProofKit
import Derived.OpenShut
import Derived.ChangeOld
import Derived.WideKeyPair
namespace Go.Proofs.Ytbonaldlljdaoaa.realRises
open Go.ChangeShapes Go.WideShapes Go.ChangeAt Go.RowKit
set_option maxHeartbeats 2000000

theorem own : ownKnob Try.prog.godebug = none := by kernel_rfl
theorem arr : Go.WideMaps.ArrKey Try.prog 36 22 2 := ⟨Try.underlying36, by kernel_rfl, by kernel_rfl, by kernel_rfl⟩

/-- What To answers, of any number. -/
theorem to_all (a : Int) (ha : I64 a) (w : World) : Calls Try.prog 12 #[.int .i64 a] w fun e w' => (∃ (b : Nat) (k : Bool), e = .returned (.tuple #[.int .u64 (b : Int), .bool k]) ∧ b < 18446744073709551616 ∧ (k = true → IsTo a b)) ∧ Ext w w' := by
  by_cases h : a = -9223372036854775808
  · subst h
    refine (to_no w).mono ?_
    rintro e w1 ⟨rfl, E1⟩
    exact ⟨⟨0, false, rfl, by decide, fun h => by cases h⟩, E1⟩
  · refine (to_any a ha h w).mono ?_
    rintro e w1 ⟨⟨b, rfl, hb⟩, E1⟩
    refine ⟨⟨b, true, rfl, ?_, fun _ => hb⟩, E1⟩
    rcases hb with ⟨_, h2⟩ | ⟨_, h2⟩ | ⟨_, r, h2, h3⟩
    · omega
    · have := rung_lt h2; omega
    · have := rung_lt h2; omega

theorem walk (a0 a1 a2 a3 : Int) (w0 : (Lit.int .u64 a0).wf = true) (w1 : (Lit.int .u64 a1).wf = true) (w2 : (Lit.int .i64 a2).wf = true) (w3 : (Lit.int .i64 a3).wf = true) (w : World) :
    Calls Try.prog 6 #[.agg #[.int .u64 a0, .int .u64 a1], .int .i64 a2, .int .i64 a3] w fun e w' => e = .returned (.bool true) ∧ Ext w w' := by
  have h0 := u64_of_wf w0
  have h1 := u64_of_wf w1
  have h2 := i64_of_wf w2
  have h3 := i64_of_wf w3
  clear w0 w1 w2 w3
  obtain ⟨a, rfl⟩ := Int.eq_ofNat_of_zero_le h0.1
  obtain ⟨b, rfl⟩ := Int.eq_ofNat_of_zero_le h1.1
  have ha : a < 18446744073709551616 := by have := h0.2; omega
  have hb : b < 18446744073709551616 := by have := h1.2; omega
  have c1 := fun W => from_any a ha W
  have c2 := fun W => from_any b hb W
  have c3 := fun W => less_any a b ha hb W
  have c4 := fun W => to_all a2 h2 W
  have c5 := fun W => to_all a3 h3 W
  have hm := fun h k l => from_mono ha hb h k l
  have HL : Hid (∀ (f g : Nat), f < 18446744073709551616 → g < 18446744073709551616 → ∀ W, Calls Try.prog 19 #[.int .u64 g, .int .u64 f] W fun e w' => e = .returned (.bool (decide (placeI g < placeI f))) ∧ w' = W) := fun f g hf hg W => less_any g f hg hf W
  clear h0 h1 h2 h3
  obtain ⟨x, hx⟩ : ∃ x, x = fromV a := ⟨_, rfl⟩
  obtain ⟨y, hy⟩ : ∃ y, y = fromV b := ⟨_, rfl⟩
  obtain ⟨p, hp⟩ : ∃ p, p = fromB a := ⟨_, rfl⟩
  obtain ⟨q, hq⟩ : ∃ q, q = fromB b := ⟨_, rfl⟩
  obtain ⟨l, hl⟩ : ∃ l, l = decide (placeI a < placeI b) := ⟨_, rfl⟩
  rw [← hx, ← hp] at c1
  rw [← hy, ← hq] at c2
  rw [← hl] at c3
  have hle : p = true → q = true → l = true → x ≤ y := by
    intro k1 k2 k3
    rw [hx, hy]
    exact hm (by rw [← hp, k1]) (by rw [← hq, k2]) (by rw [k3] at hl; simpa using hl.symm)
  clear hm hx hy hp hq hl
  cases p
  · clear hle
    go_enter Try.func6, Try.ntmps6
    go_upto_region 1 with fail
    go_region
    go_wp2_with fail
    refine (c1 _).mono ?_
    rintro e w1 ⟨rfl, E1⟩
    go_wp2_with fail
    refine (c2 _).mono ?_
    rintro e w2 ⟨rfl, E2⟩
    have E3 : Ext w w2 := Ext.trans (by repeat (first | exact Ext.refl _ | apply Ext.drew | apply Ext.alloc)) (E1.trans E2)
    clear E1 E2
    go_wp2_with fail
    refine (c4 _).mono ?_
    rintro e w4 ⟨⟨f, k1, rfl, hf, hf2⟩, E4⟩
    go_wp2_with fail
    refine (c5 _).mono ?_
    rintro e w5 ⟨⟨g, k2, rfl, hg, hg2⟩, E5⟩
    have c6 := fun W => HL.out f g hf hg W
    have E9 := E3.trans (E4.trans E5)
    have HT : Hid (k1 = true → k2 = true → a2 ≤ a3 → decide (placeI g < placeI f) = false) := fun u v z => decide_eq_false (to_mono (hf2 u) (hg2 v) z)
    clear E3 E4 E5 hf2 hg2 c1 c2 c3 c4 c5 HL hf hg
    by_cases hcd : a2 ≤ a3
    · cases k1
      · go_wp2_with fail
        refine (lives_any _).mono ?_
        rintro e w6 ⟨rfl, E6⟩
        go_wp2
        go_ret
        exact ⟨rfl, E9.trans E6⟩
      · cases k2
        · go_wp2_with fail
          refine (lives_any _).mono ?_
          rintro e w6 ⟨rfl, E6⟩
          go_wp2
          go_ret
          exact ⟨rfl, E9.trans E6⟩
        · rw [HT.out rfl rfl hcd] at c6
          go_wp2_with fail
          refine (c6 _).mono ?_
          rintro e w6 ⟨rfl, rfl⟩
          go_wp2_with fail
          refine (lives_any _).mono ?_
          rintro e w6 ⟨rfl, E6⟩
          go_wp2
          go_ret
          exact ⟨rfl, E9.trans E6⟩
    · have hcd2 : a3 < a2 := by omega
      clear hcd
      cases k1
      · go_wp2_with fail
        refine (lives_any _).mono ?_
        rintro e w6 ⟨rfl, E6⟩
        go_wp2
        go_ret
        exact ⟨rfl, E9.trans E6⟩
      · cases k2
        · go_wp2_with fail
          refine (lives_any _).mono ?_
          rintro e w6 ⟨rfl, E6⟩
          go_wp2
          go_ret
          exact ⟨rfl, E9.trans E6⟩
        · go_wp2_with fail
          refine (lives_any _).mono ?_
          rintro e w6 ⟨rfl, E6⟩
          go_wp2
          go_ret
          exact ⟨rfl, E9.trans E6⟩
  cases q
  · clear hle
    go_enter Try.func6, Try.ntmps6
    go_upto_region 1 with fail
    go_region
    go_wp2_with fail
    refine (c1 _).mono ?_
    rintro e w1 ⟨rfl, E1⟩
    go_wp2_with fail
    refine (c2 _).mono ?_
    rintro e w2 ⟨rfl, E2⟩
    have E3 : Ext w w2 := Ext.trans (by repeat (first | exact Ext.refl _ | apply Ext.drew | apply Ext.alloc)) (E1.trans E2)
    clear E1 E2
    go_wp2_with fail
    refine (c4 _).mono ?_
    rintro e w4 ⟨⟨f, k1, rfl, hf, hf2⟩, E4⟩
    go_wp2_with fail
    refine (c5 _).mono ?_
    rintro e w5 ⟨⟨g, k2, rfl, hg, hg2⟩, E5⟩
    have c6 := fun W => HL.out f g hf hg W
    have E9 := E3.trans (E4.trans E5)
    have HT : Hid (k1 = true → k2 = true → a2 ≤ a3 → decide (placeI g < placeI f) = false) := fun u v z => decide_eq_false (to_mono (hf2 u) (hg2 v) z)
    clear E3 E4 E5 hf2 hg2 c1 c2 c3 c4 c5 HL hf hg
    by_cases hcd : a2 ≤ a3
    · cases k1
      · go_wp2_with fail
        refine (lives_any _).mono ?_
        rintro e w6 ⟨rfl, E6⟩
        go_wp2
        go_ret
        exact ⟨rfl, E9.trans E6⟩
      · cases k2
        · go_wp2_with fail
          refine (lives_any _).mono ?_
          rintro e w6 ⟨rfl, E6⟩
          go_wp2
          go_ret
          exact ⟨rfl, E9.trans E6⟩
        · rw [HT.out rfl rfl hcd] at c6
          go_wp2_with fail
          refine (c6 _).mono ?_
          rintro e w6 ⟨rfl, rfl⟩
          go_wp2_with fail
          refine (lives_any _).mono ?_
          rintro e w6 ⟨rfl, E6⟩
          go_wp2
          go_ret
          exact ⟨rfl, E9.trans E6⟩
    · have hcd2 : a3 < a2 := by omega
      clear hcd
      cases k1
      · go_wp2_with fail
        refine (lives_any _).mono ?_
        rintro e w6 ⟨rfl, E6⟩
        go_wp2
        go_ret
        exact ⟨rfl, E9.trans E6⟩
      · cases k2
        · go_wp2_with fail
          refine (lives_any _).mono ?_
          rintro e w6 ⟨rfl, E6⟩
          go_wp2
          go_ret
          exact ⟨rfl, E9.trans E6⟩
        · go_wp2_with fail
          refine (lives_any _).mono ?_
          rintro e w6 ⟨rfl, E6⟩
          go_wp2
          go_ret
          exact ⟨rfl, E9.trans E6⟩
  cases l
  · clear hle
    go_enter Try.func6, Try.ntmps6
    go_upto_region 1 with fail
    go_region
    go_wp2_with fail
    refine (c1 _).mono ?_
    rintro e w1 ⟨rfl, E1⟩
    go_wp2_with fail
    refine (c2 _).mono ?_
    rintro e w2 ⟨rfl, E2⟩
    go_wp2_with fail
    refine (c3 _).mono ?_
    rintro e w3 ⟨rfl, rfl⟩
    have E3 : Ext w w3 := Ext.trans (by repeat (first | exact Ext.refl _ | apply Ext.drew | apply Ext.alloc)) (E1.trans E2)
    clear E1 E2
    go_wp2_with fail
    refine (c4 _).mono ?_
    rintro e w4 ⟨⟨f, k1, rfl, hf, hf2⟩, E4⟩
    go_wp2_with fail
    refine (c5 _).mono ?_
    rintro e w5 ⟨⟨g, k2, rfl, hg, hg2⟩, E5⟩
    have c6 := fun W => HL.out f g hf hg W
    have E9 := E3.trans (E4.trans E5)
    have HT : Hid (k1 = true → k2 = true → a2 ≤ a3 → decide (placeI g < placeI f) = false) := fun u v z => decide_eq_false (to_mono (hf2 u) (hg2 v) z)
    clear E3 E4 E5 hf2 hg2 c1 c2 c3 c4 c5 HL hf hg
    by_cases hcd : a2 ≤ a3
    · cases k1
      · go_wp2_with fail
        refine (lives_any _).mono ?_
        rintro e w6 ⟨rfl, E6⟩
        go_wp2
        go_ret
        exact ⟨rfl, E9.trans E6⟩
      · cases k2
        · go_wp2_with fail
          refine (lives_any _).mono ?_
          rintro e w6 ⟨rfl, E6⟩
          go_wp2
          go_ret
          exact ⟨rfl, E9.trans E6⟩
        · rw [HT.out rfl rfl hcd] at c6
          go_wp2_with fail
          refine (c6 _).mono ?_
          rintro e w6 ⟨rfl, rfl⟩
          go_wp2_with fail
          refine (lives_any _).mono ?_
          rintro e w6 ⟨rfl, E6⟩
          go_wp2
          go_ret
          exact ⟨rfl, E9.trans E6⟩
    · have hcd2 : a3 < a2 := by omega
      clear hcd
      cases k1
      · go_wp2_with fail
        refine (lives_any _).mono ?_
        rintro e w6 ⟨rfl, E6⟩
        go_wp2
        go_ret
        exact ⟨rfl, E9.trans E6⟩
      · cases k2
        · go_wp2_with fail
          refine (lives_any _).mono ?_
          rintro e w6 ⟨rfl, E6⟩
          go_wp2
          go_ret
          exact ⟨rfl, E9.trans E6⟩
        · go_wp2_with fail
          refine (lives_any _).mono ?_
          rintro e w6 ⟨rfl, E6⟩
          go_wp2
          go_ret
          exact ⟨rfl, E9.trans E6⟩
  · have hxy := hle rfl rfl rfl
    clear hle
    go_enter Try.func6, Try.ntmps6
    go_upto_region 1 with fail
    go_region
    go_wp2_with fail
    refine (c1 _).mono ?_
    rintro e w1 ⟨rfl, E1⟩
    go_wp2_with fail
    refine (c2 _).mono ?_
    rintro e w2 ⟨rfl, E2⟩
    go_wp2_with fail
    refine (c3 _).mono ?_
    rintro e w3 ⟨rfl, rfl⟩
    have E3 : Ext w w3 := Ext.trans (by repeat (first | exact Ext.refl _ | apply Ext.drew | apply Ext.alloc)) (E1.trans E2)
    clear E1 E2
    go_wp2_with fail
    refine (c4 _).mono ?_
    rintro e w4 ⟨⟨f, k1, rfl, hf, hf2⟩, E4⟩
    go_wp2_with fail
    refine (c5 _).mono ?_
    rintro e w5 ⟨⟨g, k2, rfl, hg, hg2⟩, E5⟩
    have c6 := fun W => HL.out f g hf hg W
    have E9 := E3.trans (E4.trans E5)
    have HT : Hid (k1 = true → k2 = true → a2 ≤ a3 → decide (placeI g < placeI f) = false) := fun u v z => decide_eq_false (to_mono (hf2 u) (hg2 v) z)
    clear E3 E4 E5 hf2 hg2 c1 c2 c3 c4 c5 HL hf hg
    by_cases hcd : a2 ≤ a3
    · cases k1
      · go_wp2_with fail
        refine (lives_any _).mono ?_
        rintro e w6 ⟨rfl, E6⟩
        go_wp2
        go_ret
        exact ⟨rfl, E9.trans E6⟩
      · cases k2
        · go_wp2_with fail
          refine (lives_any _).mono ?_
          rintro e w6 ⟨rfl, E6⟩
          go_wp2
          go_ret
          exact ⟨rfl, E9.trans E6⟩
        · rw [HT.out rfl rfl hcd] at c6
          go_wp2_with fail
          refine (c6 _).mono ?_
          rintro e w6 ⟨rfl, rfl⟩
          go_wp2_with fail
          refine (lives_any _).mono ?_
          rintro e w6 ⟨rfl, E6⟩
          go_wp2
          go_ret
          exact ⟨rfl, E9.trans E6⟩
    · have hcd2 : a3 < a2 := by omega
      clear hcd
      cases k1
      · go_wp2_with fail
        refine (lives_any _).mono ?_
        rintro e w6 ⟨rfl, E6⟩
        go_wp2
        go_ret
        exact ⟨rfl, E9.trans E6⟩
      · cases k2
        · go_wp2_with fail
          refine (lives_any _).mono ?_
          rintro e w6 ⟨rfl, E6⟩
          go_wp2
          go_ret
          exact ⟨rfl, E9.trans E6⟩
        · go_wp2_with fail
          refine (lives_any _).mono ?_
          rintro e w6 ⟨rfl, E6⟩
          go_wp2
          go_ret
          exact ⟨rfl, E9.trans E6⟩
set_option maxRecDepth 100000 in
theorem lifted (os : Os) (started : os.Started) (H : Type) (enc : TypeId × Value → H) :
    ReturnsInHanded {} Try.checked os 6 .any (Rows.realRisesSpec.pre6 enc Try.prog Try.f6 Rows.realRisesRow.domain false) (Rows.realRisesSpec.post enc Try.prog Try.f6 false true false false) := by
  refine returnsInHanded_of_change (C := Try.checked) own started (by kernel_rfl) Try.func6
    (ChangeSpec.witness6 (enc := enc) (C := Try.checked) false ⟨#[], #[.agg #[.int .u64 0, .int .u64 0], .int .i64 0, .int .i64 0], []⟩ 8 (by kernel_rfl) (by kernel_rfl) (by kernel_rfl) (by kernel_rfl)) ?_
  intro W base args ds gs before hval0 hW hcnd _
  have hval : ∀ (j : Nat) t v, Try.f6.params[j]? = some t → args[j]? = some v → Value.okWide Try.prog W .any base t v := hval0
  have hW' := hW
  obtain ⟨p, q, hA0, hV, rfl, hfz, hnd⟩ := hW
  have hA : DataW.TrodAll enc Try.prog W 0 (fun _ => true) true Try.f6.params.toList args.toList ds p := hA0
  rw [Try.params6] at hA hval
  obtain ⟨v0, vs0, d0, ds0, p0, q0, hargs, rfl, rfl, h0, r0⟩ := trodAll_cons hA
  obtain ⟨v1, vs1, d1, ds1, p1, q1, rfl, rfl, rfl, h1, r1⟩ := trodAll_cons r0
  obtain ⟨v2, vs2, d2, ds2, p2, q2, rfl, rfl, rfl, h2, r2⟩ := trodAll_cons r1
  obtain ⟨rfl, rfl, rfl⟩ := trodAll_nil r2
  obtain rfl : args = #[v0, v1, v2] := by cases args; simp_all
  obtain ⟨rfl, rfl⟩ := trodVars_none hV
  obtain ⟨x0, x1, rfl, rfl, rfl, w0, w1'⟩ := Go.WideMaps.open_pair arr Try.underlying22 (hval 0 36 v0 rfl rfl) h0
  obtain ⟨a1, rfl, rfl, rfl, w1⟩ := open_int Try.underlying2 (hval 1 2 v1 rfl rfl) h1
  obtain ⟨a2, rfl, rfl, rfl, w2⟩ := open_int Try.underlying2 (hval 2 2 v2 rfl rfl) h2
  clear hA0 hval0
  simp only [List.append_nil] at hW'
  refine (walk x0 x1 a1 a2 w0 w1' w1 w2 W).mono fun e W' ⟨he, bel⟩ => ?_
  subst he
  exact ⟨_, rfl, _, _, _, [], [], [], hW', trodAll_mk1 (shut_bool Try.underlying4 _), (trodAll_cons_mk (Go.WideMaps.shut_pair arr Try.underlying22 w0 w1') (trodAll_cons_mk (shut_int Try.underlying2 w1) (trodAll_cons_mk (shut_int Try.underlying2 w2) trodAll_mk0))), rfl, Below.frame bel _, fun h => by cases h⟩

theorem over : Rows.realRisesRow.holds Try.pinned (OpenSpec.ofChange Rows.realRisesSpec) :=
  OpenClaim.holds_of_wide 6 Try.f6 rfl rfl rfl rfl rfl rfl rfl ⟨rfl, rfl, rfl, rfl, rfl⟩ rfl rfl rfl rfl rfl (by kernel_rfl) Try.func6 (by kernel_rfl)
    (of_decide_eq_true (by kernel_rfl)) (by unfold Func.isWrapper; first | (rw [if_pos (by decide +kernel)]; kernel_rfl) | (rw [if_neg (by decide +kernel)]; exact ⟨rfl, rfl⟩))
    (fun os started H enc _ => lifted os started H enc)

theorem proved : Rows.RealRisesSaid := over
end Go.Proofs.Ytbonaldlljdaoaa.realRises
namespace Go.Proofs.Ytbonaldlljdaoaa
theorem realRises_holds : Rows.RealRisesSaid := realRises.proved
end Go.Proofs.Ytbonaldlljdaoaa
