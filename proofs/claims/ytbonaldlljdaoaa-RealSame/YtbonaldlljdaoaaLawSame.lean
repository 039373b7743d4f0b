/-
  RealSame is proved: for every uint64 and every uint8 the call returns true and the arguments read as they did. No condition.
-/
import Derived.Test.YtbonaldlljdaoaaMeanB
import Derived.ProofKit
import Derived.OpenShut
import Derived.ChangeOld
namespace Go.Proofs.Ytbonaldlljdaoaa.realSame
open Go.ChangeShapes Go.WideShapes Go.ChangeAt Go.RowKit
set_option maxHeartbeats 2000000

theorem own : ownKnob Try.prog.godebug = none := by kernel_rfl

set_option maxRecDepth 100000 in
theorem walk (a0 : Int) (a1 : Int) (w0 : (Lit.int .u64 a0).wf = true) (w1 : (Lit.int .u8 a1).wf = true) (w : World) :
    Calls Try.prog 8 #[.int .u64 a0, .int .u8 a1] w fun e w' => e = .returned (.bool true) ∧ Ext w w' := by
  have h0 := u64_of_wf w0
  obtain ⟨u1, u2⟩ := u8_of_wf w1
  clear w0 w1
  obtain ⟨b, rfl⟩ := Int.eq_ofNat_of_zero_le h0.1
  have hb : b < 18446744073709551616 := by have := h0.2; omega
  obtain ⟨n, rfl⟩ := Int.eq_ofNat_of_zero_le u1
  obtain ⟨K, hK⟩ : ∃ K : Nat, K = 1 + n % 2 := ⟨_, rfl⟩
  have eK : (1 : Int) + (n : Int) % 2 = (K : Int) := by omega
  have hK12 : K = 1 ∨ K = 2 := by omega
  have hKI : (K : Int) ≤ 2 := by omega
  have hKI1 : (1 : Int) ≤ (K : Int) := by omega
  have cK := fun W => kind_any b hb W
  have HB : Hid (b < 18446744073709551616) := hb
  have HK : Hid (K = 1 ∨ K = 2) := hK12
  clear h0 hK hK12 hb
  go_enter Try.func8, Try.ntmps8
  go_wp2
  go_loopw [5, 6] (fun v iv wr => ∃ i : Nat, iv = .int .i64 (i : Int) ∧ i ≤ K ∧ OwnN wr w.heap.size v (List.replicate i b) ∧ Ext w wr) (fun _ iv _ => (10 - intOf iv).toNat)
  case atStart => exact ⟨0, rfl, Nat.zero_le _, ownN_new w w (Nat.le_refl _), (Ext.refl _).alloc _⟩
  case round =>
    obtain ⟨i, rfl, hi, hO, hE⟩ := hrel
    have HI : Hid (i ≤ K) := hi
    rcases Nat.lt_or_ge i K with g | g
    · have gI : (i : Int) < (K : Int) := by omega
      clear hi g
      go_wp2_with (at_builtin; refine ownN_append _ w _ _ u5 _ (List.replicate i b) [b] rfl rfl (by rfl) (by rfl) (hO.alloc _) wr.heap.size 0 1 rfl (word_new wr b) (by have := HI.out; have := HK.out; simp; omega) (hE.alloc _) ?_; intro v' W' hO' hE')
      go_wp2
      go_roundw
      case rel => exact ⟨i + 1, by go_num, by omega, by rw [List.replicate_succ']; exact hO', hE'⟩
      case measure => simp [intOf]; omega
    · have hiK : i = K := by omega
      subst hiK
      have cM := mean_any (List.replicate i b) u5 wr hO.row (by have := HK.out; simp; omega)
      clear hi g hO
      obtain ⟨M, hM⟩ : ∃ M, M = meanW (List.replicate i b) := ⟨_, rfl⟩
      rw [← hM] at cM
      have HM : Hid (M = meanW [b] ∨ M = meanW [b, b]) := by
        rcases HK.out with h | h
        · left; rw [hM, h]; rfl
        · right; rw [hM, h]; rfl
      clear hM
      have eX : (b : Int) / 4503599627370496 % 2048 = (expo b : Int) := by have := HB.out; unfold expo; omega
      by_cases k1 : expo b = 2047
      · by_cases k2 : b % 4503599627370496 = 0
        · have ek : kindI b = 1 := by unfold kindI; rw [if_pos k1, if_pos k2]
          rw [ek] at cK
          have hbn : b ≠ 9223372036854775808 := by unfold expo at k1; omega
          have hMb : M = b := by
            have := mean_same b HB.out hbn (Or.inr ⟨k1, k2⟩)
            rcases HM.out with h | h
            · rw [h, this.1]
            · rw [h, this.2]
          subst hMb
          have hbe : ((M : Int) == 9223372036854775808) = false := by simp; omega
          clear k1 k2 ek hbn eX HM
          go_wp2_with fail
          refine cM.mono ?_
          rintro e w1 ⟨rfl, E1⟩
          go_wp2_with fail
          refine (cK _).mono ?_
          rintro e w2 ⟨rfl, rfl⟩
          go_wp2_with fail
          refine (cK _).mono ?_
          rintro e w3 ⟨rfl, rfl⟩
          go_wp2_with fail
          refine (lives_any _).mono ?_
          rintro e w5 ⟨rfl, E5⟩
          go_wp2
          go_ret
          exact ⟨rfl, hE.trans (E1.trans E5)⟩
        · have ek : kindI b = 2 := by unfold kindI; rw [if_pos k1, if_neg k2]
          rw [ek] at cK
          have hMb : M = 9221120237041090560 := by
            have := mean_nan b (read_nan b k1 k2)
            rcases HM.out with h | h
            · rw [h, this.1]
            · rw [h, this.2]
          subst hMb
          clear k1 k2 ek eX HM
          go_wp2_with fail
          refine cM.mono ?_
          rintro e w1 ⟨rfl, E1⟩
          go_wp2_with fail
          refine (cK _).mono ?_
          rintro e w2 ⟨rfl, rfl⟩
          go_wp2_with fail
          refine (nan_any _).mono ?_
          rintro e w3 ⟨rfl, rfl⟩
          go_wp2_with fail
          refine (lives_any _).mono ?_
          rintro e w5 ⟨rfl, E5⟩
          go_wp2
          go_ret
          exact ⟨rfl, hE.trans (E1.trans E5)⟩
      · have ek : kindI b = 0 := by unfold kindI; rw [if_neg k1]
        rw [ek] at cK
        by_cases k3 : 2040 < expo b
        · have eg : decide ((2040 : Int) < (b : Int) / 4503599627370496 % 2048) = true := by rw [eX]; simp; omega
          clear k1 k3 ek eX HM
          go_wp2_with fail
          refine cM.mono ?_
          rintro e w1 ⟨rfl, E1⟩
          go_wp2_with fail
          refine (cK _).mono ?_
          rintro e w2 ⟨rfl, rfl⟩
          go_wp2_with fail
          refine (cK _).mono ?_
          rintro e w3 ⟨rfl, rfl⟩
          go_wp2_with fail
          refine (lives_any _).mono ?_
          rintro e w5 ⟨rfl, E5⟩
          go_wp2
          go_ret
          exact ⟨rfl, hE.trans (E1.trans E5)⟩
        · have eg : decide ((2040 : Int) < (b : Int) / 4503599627370496 % 2048) = false := by rw [eX]; simp; omega
          by_cases k4 : b = 9223372036854775808
          · have hbe : ((b : Int) == 9223372036854775808) = true := by rw [k4]; rfl
            clear k1 k3 k4 ek eX HM
            go_wp2_with fail
            refine cM.mono ?_
            rintro e w1 ⟨rfl, E1⟩
            go_wp2_with fail
            refine (cK _).mono ?_
            rintro e w2 ⟨rfl, rfl⟩
            go_wp2_with fail
            refine (cK _).mono ?_
            rintro e w3 ⟨rfl, rfl⟩
            go_wp2_with fail
            refine (lives_any _).mono ?_
            rintro e w5 ⟨rfl, E5⟩
            go_wp2
            go_ret
            exact ⟨rfl, hE.trans (E1.trans E5)⟩
          · have hbe : ((b : Int) == 9223372036854775808) = false := by simp; omega
            have hMb : M = b := by
              have := mean_same b HB.out k4 (Or.inl (by omega))
              rcases HM.out with h | h
              · rw [h, this.1]
              · rw [h, this.2]
            subst hMb
            clear k1 k3 k4 ek eX HM
            go_wp2_with fail
            refine cM.mono ?_
            rintro e w1 ⟨rfl, E1⟩
            go_wp2_with fail
            refine (cK _).mono ?_
            rintro e w2 ⟨rfl, rfl⟩
            go_wp2_with fail
            refine (cK _).mono ?_
            rintro e w3 ⟨rfl, rfl⟩
            go_wp2_with fail
            refine (lives_any _).mono ?_
            rintro e w5 ⟨rfl, E5⟩
            go_wp2
            go_ret
            exact ⟨rfl, hE.trans (E1.trans E5)⟩
set_option maxRecDepth 100000 in
theorem lifted (os : Os) (started : os.Started) (H : Type) (enc : TypeId × Value → H) :
    ReturnsInHanded {} Try.checked os 8 .any (Rows.realSameSpec.pre6 enc Try.prog Try.f8 Rows.realSameRow.domain false) (Rows.realSameSpec.post enc Try.prog Try.f8 false true false false) := by
  refine returnsInHanded_of_change (C := Try.checked) own started (by kernel_rfl) Try.func8
    (ChangeSpec.witness6 (enc := enc) (C := Try.checked) false ⟨#[], #[.int .u64 0, .int .u8 0], []⟩ 8 (by kernel_rfl) (by kernel_rfl) (by kernel_rfl) (by kernel_rfl)) ?_
  intro W base args ds gs before hval0 hW hcnd _
  have hval : ∀ (j : Nat) t v, Try.f8.params[j]? = some t → args[j]? = some v → Value.okWide Try.prog W .any base t v := hval0
  have hW' := hW
  obtain ⟨p, q, hA0, hV, rfl, hfz, hnd⟩ := hW
  have hA : DataW.TrodAll enc Try.prog W 0 (fun _ => true) true Try.f8.params.toList args.toList ds p := hA0
  rw [Try.params8] at hA hval
  obtain ⟨v0, vs0, d0, ds0, p0, q0, hargs, rfl, rfl, h0, r0⟩ := trodAll_cons hA
  obtain ⟨v1, vs1, d1, ds1, p1, q1, rfl, rfl, rfl, h1, r1⟩ := trodAll_cons r0
  obtain ⟨rfl, rfl, rfl⟩ := trodAll_nil r1
  obtain rfl : args = #[v0, v1] := by cases args; simp_all
  obtain ⟨rfl, rfl⟩ := trodVars_none hV
  obtain ⟨a0, rfl, rfl, rfl, w0⟩ := open_int Try.underlying22 (hval 0 22 v0 rfl rfl) h0
  obtain ⟨a1, rfl, rfl, rfl, w1⟩ := open_int Try.underlying5 (hval 1 5 v1 rfl rfl) h1
  clear hA0 hval0
  simp only [List.append_nil] at hW'
  refine (walk a0 a1 w0 w1 W).mono fun e W' ⟨he, bel⟩ => ?_
  subst he
  exact ⟨_, rfl, _, _, _, [], [], [], hW', trodAll_mk1 (shut_bool Try.underlying4 _), (trodAll_cons_mk (shut_int Try.underlying22 w0) (trodAll_cons_mk (shut_int Try.underlying5 w1) trodAll_mk0)), rfl, Below.frame bel _, fun h => by cases h⟩

theorem over : Rows.realSameRow.holds Try.pinned (OpenSpec.ofChange Rows.realSameSpec) :=
  OpenClaim.holds_of_wide 8 Try.f8 rfl rfl rfl rfl rfl rfl rfl ⟨rfl, rfl, rfl, rfl, rfl⟩ rfl rfl rfl rfl rfl (by kernel_rfl) Try.func8 (by kernel_rfl)
    (of_decide_eq_true (by kernel_rfl)) (by unfold Func.isWrapper; first | (rw [if_pos (by decide +kernel)]; kernel_rfl) | (rw [if_neg (by decide +kernel)]; exact ⟨rfl, rfl⟩))
    (fun os started H enc _ => lifted os started H enc)

theorem proved : Rows.RealSameSaid := over
end Go.Proofs.Ytbonaldlljdaoaa.realSame
namespace Go.Proofs.Ytbonaldlljdaoaa
theorem realSame_holds : Rows.RealSameSaid := realSame.proved
end Go.Proofs.Ytbonaldlljdaoaa
