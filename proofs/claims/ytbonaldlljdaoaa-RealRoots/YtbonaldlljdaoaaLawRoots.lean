/-
  RealRoots is proved: for every int64 the call returns true and the argument reads as it did. No condition.
-/
import Derived.Test.YtbonaldlljdaoaaRealC
import Derived.ProofKit
import Derived.OpenShut
import Derived.ChangeOld
namespace Go.Proofs.Ytbonaldlljdaoaa.realRoots
open Go.ChangeShapes Go.WideShapes Go.ChangeAt Go.RowKit
set_option maxHeartbeats 2000000

theorem own : ownKnob Try.prog.godebug = none := by kernel_rfl

theorem walk (a0 : Int) (w0 : (Lit.int .i64 a0).wf = true) (w : World) :
    Calls Try.prog 5 #[.int .i64 a0] w fun e w' => e = .returned (.bool true) ∧ Ext w w' := by
  have ha := i64_of_wf w0
  clear w0
  by_cases h0 : a0 < 0
  · have c1 := fun W => root_no a0 h0 W
    have c2 := fun W => rroot_no a0 h0 W
    clear ha
    go_enter Try.func5, Try.ntmps5
    go_wp2_with fail
    refine (c1 _).mono ?_
    rintro e w1 ⟨rfl, E1⟩
    go_wp2_with fail
    refine (c2 _).mono ?_
    rintro e w2 ⟨rfl, E2⟩
    go_wp2_with fail
    refine (lives_any _).mono ?_
    rintro e w3 ⟨rfl, E3⟩
    go_wp2
    go_ret
    exact ⟨rfl, (E1.trans E2).trans E3⟩
  obtain ⟨a, rfl⟩ := Int.eq_ofNat_of_zero_le (show 0 ≤ a0 by omega)
  have hA : a ≤ 9223372036854775807 := by obtain ⟨_, _⟩ := ha; omega
  have c1 := fun W => root_any a hA W
  have c2 := fun W => rroot_any a hA W
  have c3 := fun W => product_any a 10000 (by omega) (by omega) W
  rw [show ((10000 : Nat) : Int) = 10000 from rfl] at c3
  have hN : a * 10000 < 151115727451828646838272 := by omega
  generalize hNe : a * 10000 = N at *
  have HN : Hid (N < 151115727451828646838272) := hN
  clear hNe h0 hN
  go_enter Try.func5, Try.ntmps5
  go_wp2_with fail
  refine (c1 _).mono ?_
  rintro e w1 ⟨⟨r, rfl, h1, h2⟩, E1⟩
  go_wp2_with fail
  refine (c2 _).mono ?_
  rintro e w2 ⟨⟨s, rfl, h3, h4⟩, E2⟩
  obtain rfl : r = s := h1.one h3
  go_wp2_with fail
  refine (c3 _).mono ?_
  rintro e w3 ⟨rfl, E3⟩
  have E5 := (E1.trans E2).trans E3
  clear E1 E2 E3 h3 h4 c1 c2 c3 ha
  have p1 := fun W => product_any r r (by omega) (by omega) W
  have p2 := fun W => product_any (r + 1) (r + 1) (by omega) (by omega) W
  have hq : (r + 1) * (r + 1) < 340282366920938463463374607431768211456 := by
    have := Nat.mul_le_mul (show r + 1 ≤ 549755813888 by omega) (show r + 1 ≤ 549755813888 by omega)
    omega
  have hq0 : r * r ≤ (r + 1) * (r + 1) := Nat.mul_le_mul (by omega) (by omega)
  have m1 := fun W => cmp_w ((r * r : Nat) : Int) N (by omega) (by omega) (by omega) (by have := HN.out; omega) W
  have m2 := fun W => cmp_w (((r + 1) * (r + 1) : Nat) : Int) N (by omega) (by omega) (by omega) (by have := HN.out; omega) W
  obtain ⟨g1, g2⟩ := h1
  obtain ⟨v1, hv1⟩ : ∃ v, v = cmpI ((r * r : Nat) : Int) N := ⟨_, rfl⟩
  have k1 : v1 ≤ 0 := by rw [hv1]; unfold cmpI; rw [if_neg (c := (N : Int) < _) (by omega)]; split <;> decide
  have k2 : cmpI (((r + 1) * (r + 1) : Nat) : Int) N = 1 := by unfold cmpI; rw [if_neg (by omega), if_pos (by omega)]
  rw [← hv1] at m1
  rw [k2] at m2
  obtain ⟨R1, hR1⟩ : ∃ R1 : Int, R1 = ((r + 1 : Nat) : Int) := ⟨_, rfl⟩
  have ew : IntKind.u64.wrap ((r : Int) + 1) = R1 := by rw [hR1, wrapU]; omega
  rw [← hR1] at p2
  obtain ⟨R0, hR0⟩ : ∃ R0 : Int, R0 = (r : Int) := ⟨_, rfl⟩
  rw [← hR0] at p1 ew ⊢
  have hr : 0 ≤ R0 ∧ R0 < 549755813888 := by omega
  obtain ⟨Hf, Lf, Vf, hF⟩ : ∃ Hf Lf Vf : Int → Int, (Hf R0 = uhi ((r * r : Nat) : Int) ∧ Lf R0 = loOf ((r * r : Nat) : Int) ∧ Vf R0 = v1) ∧ Hf R1 = uhi (((r + 1) * (r + 1) : Nat) : Int) ∧ Lf R1 = loOf (((r + 1) * (r + 1) : Nat) : Int) ∧ Vf R1 = 1 := by
    have hne : R1 ≠ R0 := by omega
    refine ⟨fun x => if x = R0 then uhi ((r * r : Nat) : Int) else uhi (((r + 1) * (r + 1) : Nat) : Int), fun x => if x = R0 then loOf ((r * r : Nat) : Int) else loOf (((r + 1) * (r + 1) : Nat) : Int), fun x => if x = R0 then v1 else 1, ⟨if_pos rfl, if_pos rfl, if_pos rfl⟩, if_neg hne, if_neg hne, if_neg hne⟩
  obtain ⟨⟨f1, f2, f3⟩, f4, f5, f6⟩ := hF
  rw [← f1, ← f2] at p1 m1
  rw [← f4, ← f5] at p2 m2
  rw [← f3] at m1 k1
  rw [← f6] at m2
  have k3 : 0 < Vf R1 := by rw [f6]; decide
  obtain ⟨nh, hnh⟩ : ∃ v, v = uhi (N : Int) := ⟨_, rfl⟩
  obtain ⟨nl, hnl⟩ : ∃ v, v = loOf (N : Int) := ⟨_, rfl⟩
  rw [← hnh, ← hnl] at m1 m2 ⊢
  have cP : ∀ x : Int, x = R0 ∨ x = R1 → ∀ W : World, Calls Try.prog 17 #[.int .u64 x, .int .u64 x] W fun e w' => e = .returned (.agg #[.int .u64 (Hf x), .int .u64 (Lf x)]) ∧ Ext W w' := by
    rintro x (rfl | rfl)
    · exact p1
    · exact p2
  have cM : ∀ x : Int, x = R0 ∨ x = R1 → ∀ W : World, Calls Try.prog 18 #[.agg #[.int .u64 (Hf x), .int .u64 (Lf x)], .agg #[.int .u64 nh, .int .u64 nl]] W fun e w' => e = .returned (.int .i64 (Vf x)) ∧ Ext W w' := by
    rintro x (rfl | rfl)
    · exact m1
    · exact m2
  have HK : Hid (∀ W W' : World, (Ext w W ∧ Pair W w3.heap.size N) → Ext W W' → (Ext w W' ∧ Pair W' w3.heap.size N) ∧ W'.cell? ⟨w3.heap.size, 0, none⟩ = some (.int .u64 nh) ∧ W'.cell? ⟨w3.heap.size, 1, none⟩ = some (.int .u64 nl)) := by
    intro W W' h e; rw [hnh, hnl]; exact Stands.mk' (h.1.trans e) (h.2.ext e)
  have HP : Hid (∀ o, o = Obj.cells #[.int .u64 nh, .int .u64 nl] 33 → Ext w (w3.alloc o) ∧ Pair (w3.alloc o) w3.heap.size N) := by
    rintro o rfl; rw [hnh, hnl]; exact ⟨E5.alloc _, by simp [Pair, go_sem]⟩
  obtain ⟨hr1, hr2⟩ := hr
  have er : IntKind.u64.wrap R0 = R0 := by rw [wrapU]; omega
  clear hv1 k2 hq hq0 g1 g2 hR1 hR0 f1 f2 f3 f4 f5 f6 p1 p2 m1 m2 h2 hnh hnl HN
  go_upto_region 8 with fail
  go_region_held3 (fun w' => (Ext w w' ∧ Pair w' w3.heap.size N) ∧ w'.cell? ⟨w3.heap.size, 0, none⟩ = some (.int .u64 nh) ∧ w'.cell? ⟨w3.heap.size, 1, none⟩ = some (.int .u64 nl))
    (first
      | assumption
      | exact HK.out _ _ (HP.out _ rfl) ((Ext.refl _).drew))
    (first
      | (go_at_call 17; (try simp only [er, ew]); refine (cP _ (by first | exact Or.inl rfl | exact Or.inr rfl) _).mono ?_; rintro e w4 ⟨rfl, E4⟩; have hS := HK.out _ _ (And.left (by assumption)) E4)
      | (go_at_call 18; refine (cM _ (by first | exact Or.inl rfl | exact Or.inr rfl) _).mono ?_; rintro e w4 ⟨rfl, E4⟩; have hS := HK.out _ _ (And.left (by assumption)) E4)
      | (go_at_call 11; refine (lives_any _).mono ?_; rintro e w4 ⟨rfl, E4⟩; have hS := HK.out _ _ (And.left (by assumption)) E4))
  go_wp2
  go_ret
  exact ⟨rfl, hS.1.1⟩
set_option maxRecDepth 100000 in
theorem lifted (os : Os) (started : os.Started) (H : Type) (enc : TypeId × Value → H) :
    ReturnsInHanded {} Try.checked os 5 .any (Rows.realRootsSpec.pre6 enc Try.prog Try.f5 Rows.realRootsRow.domain false) (Rows.realRootsSpec.post enc Try.prog Try.f5 false true false false) := by
  refine returnsInHanded_of_change (C := Try.checked) own started (by kernel_rfl) Try.func5
    (ChangeSpec.witness6 (enc := enc) (C := Try.checked) false ⟨#[], #[.int .i64 0], []⟩ 8 (by kernel_rfl) (by kernel_rfl) (by kernel_rfl) (by kernel_rfl)) ?_
  intro W base args ds gs before hval0 hW hcnd _
  have hval : ∀ (j : Nat) t v, Try.f5.params[j]? = some t → args[j]? = some v → Value.okWide Try.prog W .any base t v := hval0
  have hW' := hW
  obtain ⟨p, q, hA0, hV, rfl, hfz, hnd⟩ := hW
  have hA : DataW.TrodAll enc Try.prog W 0 (fun _ => true) true Try.f5.params.toList args.toList ds p := hA0
  rw [Try.params5] at hA hval
  obtain ⟨v0, vs0, d0, ds0, p0, q0, hargs, rfl, rfl, h0, r0⟩ := trodAll_cons hA
  obtain ⟨rfl, rfl, rfl⟩ := trodAll_nil r0
  obtain rfl : args = #[v0] := by cases args; simp_all
  obtain ⟨rfl, rfl⟩ := trodVars_none hV
  obtain ⟨a0, rfl, rfl, rfl, w0⟩ := open_int Try.underlying2 (hval 0 2 v0 rfl rfl) h0
  clear hA0 hval0
  simp only [List.append_nil] at hW'
  refine (walk a0 w0 W).mono fun e W' ⟨he, bel⟩ => ?_
  subst he
  exact ⟨_, rfl, _, _, _, [], [], [], hW', trodAll_mk1 (shut_bool Try.underlying4 _), (trodAll_cons_mk (shut_int Try.underlying2 w0) trodAll_mk0), rfl, Below.frame bel _, fun h => by cases h⟩

theorem over : Rows.realRootsRow.holds Try.pinned (OpenSpec.ofChange Rows.realRootsSpec) :=
  OpenClaim.holds_of_wide 5 Try.f5 rfl rfl rfl rfl rfl rfl rfl ⟨rfl, rfl, rfl, rfl, rfl⟩ rfl rfl rfl rfl rfl (by kernel_rfl) Try.func5 (by kernel_rfl)
    (of_decide_eq_true (by kernel_rfl)) (by unfold Func.isWrapper; first | (rw [if_pos (by decide +kernel)]; kernel_rfl) | (rw [if_neg (by decide +kernel)]; exact ⟨rfl, rfl⟩))
    (fun os started H enc _ => lifted os started H enc)

theorem proved : Rows.RealRootsSaid := over
end Go.Proofs.Ytbonaldlljdaoaa.realRoots
namespace Go.Proofs.Ytbonaldlljdaoaa
theorem realRoots_holds : Rows.RealRootsSaid := realRoots.proved
end Go.Proofs.Ytbonaldlljdaoaa
