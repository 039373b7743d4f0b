/-
  TopNumbers is proved: for every number the call returns true. Its condition: the listed tables lie as the program text lays them (the card ties them).
-/
import Derived.Test.YtdjniiginnlmhaaGreatDoorQ33
import Derived.Test.YtdjniiginnlmhaaGreatDoorQ35
import Derived.Test.YtdjniiginnlmhaaGreatDoorQ32
import Derived.Test.YtdjniiginnlmhaaGreatDoorCards
import Derived.Test.YtdjniiginnlmhaaGreatDoorTie
import Derived.ChangeMaps5
import Derived.Lib.SmallJoins
namespace Go.Proofs.YtdjniiginnlmhaaGreatDoor.topNumbers
open Go.ChangeShapes Go.WideShapes Go.ChangeAt Go.RowKit
open Go.ChangeMaps (open_string shut_string)
open Go.Joins
set_option maxHeartbeats 6000000
set_option maxRecDepth 100000

theorem walk (a : Int) (wf : (Lit.int .i64 a).wf = true) (w : World) (hT : TabP w) :
    Calls Tryz.prog 7 #[.int .i64 a] w fun e w' => e = .returned (.bool true) ∧ Ext w w' := by
  have ha := i64_of_wf wf
  have HT : Hid (TabP w) := hT
  have HA : Hid (I64 a) := ha
  have C1 : Hid (∀ W, TabP W → Calls Tryz.prog 19 #[.int .i64 a] W fun e w' => e = .returned (.string (bs (printL a))) ∧ Ext W w') := fun W h => print_any a ha W h.1
  have hsz : (bs (printL a)).size ≤ 21 := by rw [bs_size]; exact printL_len a ha
  have C2 : Hid (∀ W, Calls Tryz.prog 18 #[.string (bs (printL a))] W fun e w' => e = .returned (.tuple #[.int .i64 (rdV (printL a)), .int .i64 (rdK (printL a))]) ∧ Ext W w') := fun W => parse_any (bs (printL a)) W (by unfold maxLen; omega)
  have C3 : Hid (∀ W, Calls Tryz.prog 20 #[.int .i64 a] W fun e w' => e = .returned (.bool (canB a)) ∧ w' = W) := fun W => rcan_any a W
  have C4 : Hid (∀ W, Calls Tryz.prog 23 #[.int .i64 a] W fun e w' => e = .returned (.int .u64 (absI a)) ∧ w' = W) := fun W => rsize_any a ha W
  have HQ : Hid ((bs (printL a)).data.toList = printL a) := rfl
  clear hT
  cases hc : canB a
  · obtain ⟨r1, r2⟩ := read_none a hc
    rw [r1, r2] at C2
    rw [hc] at C3
    generalize bs (printL a) = q at *
    clear r1 r2 hc ha wf
    go_enter Tryz.func7, Tryz.ntmps7
    go_wp2_with fail
    refine (C1.out _ HT.out).mono ?_
    rintro e w1 ⟨rfl, E1⟩
    go_wp2_with fail
    refine (C2.out _).mono ?_
    rintro e w2 ⟨rfl, E2⟩
    go_wp2_with fail
    refine (C3.out _).mono ?_
    rintro e w3 ⟨rfl, rfl⟩
    have HE : Hid (Ext w w3) := E1.trans E2
    clear E1 E2
    go_wp2_with fail
    go_ret
    exact ⟨rfl, HE.out⟩
  · obtain ⟨r1, r2⟩ := read_back a hc ha
    rw [r1, r2] at C2
    rw [hc] at C3
    have hne : a ≠ -9223372036854775808 := by intro h; rw [h] at hc; exact absurd hc (by decide)
    have C5 : Hid (∀ W, Calls Tryz.prog 21 #[.int .i64 a] W fun e w' => (∃ b : Nat, e = .returned (.tuple #[.int .u64 (b : Int), .bool true]) ∧ IsTo a b) ∧ Ext W w') := fun W => to_any a ha hne W
    have C6 : Hid (∀ W, TabP W → Calls Tryz.prog 17 #[.string (bs (printL a))] W fun e w' => e = .returned (.tuple #[.string (bs (printL a)), .int .i64 0, .int .i64 0]) ∧ Ext W w') := by
      intro W h
      have c := ptidy_any 2 (bs (printL a)) (printL a) rfl W (by unfold maxLen; omega) h (by rw [par_num a hc ha]; exact fun _ => num_ok a hc ha)
      rw [par_num a hc ha] at c
      refine c.mono ?_
      rintro e w' ⟨rfl, E⟩
      exact ⟨ret_sii (by rw [if_pos rfl, num_sh a hc ha]) rfl rfl, E⟩
    generalize bs (printL a) = q at *
    have eaa : (a != a) = false := by simp
    clear r1 r2 hc ha wf hne
    go_enter Tryz.func7, Tryz.ntmps7
    go_wp2_with fail
    refine (C1.out _ HT.out).mono ?_
    rintro e w1 ⟨rfl, E1⟩
    go_wp2_with fail
    refine (C2.out _).mono ?_
    rintro e w2 ⟨rfl, E2⟩
    go_wp2_with fail
    refine (C3.out _).mono ?_
    rintro e w3 ⟨rfl, rfl⟩
    have HE3 : Hid (Ext w w3) := E1.trans E2
    clear E1 E2
    go_wp2_with fail
    refine (C5.out _).mono ?_
    rintro e w4 ⟨⟨b, rfl, hb⟩, E4⟩
    have HE4 : Hid (Ext w w4) := HE3.out.trans E4
    have hb64 : b < 18446744073709551616 := by
      rcases hb with ⟨_, h⟩ | ⟨_, h⟩ | ⟨_, r, h, h2⟩
      · omega
      · have := (rung_lt h).2; omega
      · have := (rung_lt h).2; omega
    have HB : Hid (IsTo a b) := hb
    have c6 := fun W => from_any b hb64 W
    clear E4 hb hb64
    go_wp2_with fail
    refine (c6 _).mono ?_
    rintro e w5 ⟨rfl, E5⟩
    have HE5 : Hid (Ext w w5) := HE4.out.trans E5
    clear E5 c6
    go_wp2_with fail
    refine (C4.out _).mono ?_
    rintro e w6 ⟨rfl, rfl⟩
    by_cases hbig : (4503599627370496 : Int) ≤ absI a
    · go_wp2_with fail
      go_ret
      exact ⟨rfl, HE5.out⟩
    · have hs : a.natAbs < 4503599627370496 := by unfold absI at hbig; split at hbig <;> omega
      obtain ⟨f1, f2⟩ := to_back HB.out hs
      rw [f1, f2]
      have ebb : (a == a) = true := by simp
      have eq : (q.toList == q.toList) = true := by simp
      clear hs f1 f2
      go_wp2_with fail
      refine (C1.out _ (HT.out.ext HE5.out)).mono ?_
      rintro e w7 ⟨rfl, E7⟩
      have HE7 : Hid (Ext w w7) := HE5.out.trans E7
      clear E7
      go_wp2_with fail
      refine (C6.out _ (HT.out.ext HE7.out)).mono ?_
      rintro e w8 ⟨rfl, E8⟩
      have HE8 : Hid (Ext w w8) := HE7.out.trans E8
      clear E8
      go_wp2_with fail
      refine (C1.out _ (HT.out.ext HE8.out)).mono ?_
      rintro e w9 ⟨rfl, E9⟩
      have HE9 : Hid (Ext w w9) := HE8.out.trans E9
      clear E9
      go_wp2_with fail
      go_ret
      exact ⟨rfl, HE9.out⟩

set_option maxRecDepth 100000 in
theorem contract (H : Type) (enc : TypeId × Value → H) (W : World) (base : Nat) (args : Array Value) (ds gs : List (DataW H)) (before : List MemPlace)
    (hval0 : ∀ (j : Nat) t v, Tryz.f7.params[j]? = some t → args[j]? = some v → Value.okWide Tryz.prog W .any base t v)
    (hW : DataW.Whole enc Tryz.prog Tryz.f7.params.toList Rows.topNumbersSpec.vars false W args.toList ds gs before) (hL : laidMetH Tryz.prog Rows.topNumbersRow.laid W) (hSh : W.ShapedOpen Tryz.prog) :
    Calls Tryz.prog 7 args W fun e W' => ∃ v, e = .returned v ∧ Rows.topNumbersSpec.post enc Tryz.prog Tryz.f7 false true false false W args v W' := by
  have hval := hval0
  have hW' := hW
  obtain ⟨p, q, hA0, hV, rfl, hfz, hnd⟩ := hW
  have hA : DataW.TrodAll enc Tryz.prog W 0 (fun _ => true) true Tryz.f7.params.toList args.toList ds p := hA0
  rw [Tryz.params7] at hA hval
  obtain ⟨v0, vs0, d0, ds0, p0, q0, hargs, rfl, rfl, h0, r0⟩ := trodAll_cons hA
  obtain ⟨rfl, rfl, rfl⟩ := trodAll_nil r0
  obtain rfl : args = #[v0] := by cases args; simp_all
  obtain ⟨rfl, rfl⟩ := trodVars_none hV
  obtain ⟨a0, rfl, rfl, rfl, w0⟩ := open_int Tryz.underlying2 (hval 0 2 v0 rfl rfl) h0
  clear hA0 hval0
  simp only [List.append_nil] at hW'
  refine (walk a0 w0 W (tabP_of hL hSh)).mono fun e W' ⟨he, bel⟩ => ?_
  subst he
  exact ⟨_, rfl, _, _, _, [], [], [], hW', trodAll_mk1 (shut_bool Tryz.underlying4 _), (trodAll_cons_mk (shut_int Tryz.underlying2 w0) trodAll_mk0), rfl, Below.frame bel _, fun h => by cases h⟩

theorem laid_met (os : Os) : laidMet Tryz.prog Rows.topNumbersRow.laid ((laidWorld os).forCall (fun _ _ => 0) ⟨#[], #[.int .i64 0], []⟩).memory :=
  laidMet_of_run' 8 (by kernel_rfl) (by kernel_rfl)
theorem reads (os : Os) {H : Type} (enc : TypeId × Value → H) : ∃ places, DataW.whole enc Tryz.prog ((laidWorld os).forCall (fun _ _ => 0) ⟨#[], #[.int .i64 0], []⟩).memory Tryz.f7.params.toList Rows.topNumbersSpec.vars false (#[.int .i64 0] : Array Value).toList 8 = some ([.lit (.int .i64 0)], [], places) :=
  ⟨[], by kernel_rfl⟩

set_option maxRecDepth 100000 in
theorem lifted (os : Os) (started : os.Started) (H : Type) (enc : TypeId × Value → H) (F : Stop.Interp) :
    ReturnsInHanded {} Tryz.checked os 7 .any ((OpenSpec.ofChange Rows.topNumbersSpec).preRow enc Tryz.prog Tryz.f7 Rows.topNumbersRow.domain false Rows.topNumbersRow.laid) (((OpenSpec.ofChange Rows.topNumbersSpec).at F).post enc Tryz.prog Tryz.f7 false true false false) := by
  obtain ⟨places, hx⟩ := reads os enc
  refine returnsInHanded_of_row (C := Tryz.checked) (s := OpenSpec.ofChange Rows.topNumbersSpec) ownK started (by kernel_rfl) Tryz.func7
    (witness_row_at (enc := enc) (C := Tryz.checked) false (laidWorld os) #[.int .i64 0] rfl (by kernel_rfl) (by kernel_rfl) (by kernel_rfl)
      (OpenSpec.preRow_of_cond 8 hx (by kernel_rfl) (fun k hk => by cases hk) (by kernel_rfl) (by
        rw [MakeChecks.laidMetH_plain _ _ _ (by kernel_rfl)]
        exact laid_met os))) ?_
  intro W base args ds gs before hval hW _ _ _ hL hSh _
  exact contract H enc W base args ds gs before hval hW hL hSh

theorem said : Rows.TopNumbersSaid :=
  OpenClaim.holds_of_cond 7 Tryz.f7 rfl rfl rfl rfl rfl rfl rfl ⟨rfl, rfl, rfl, rfl, rfl⟩ rfl rfl rfl rfl rfl (by kernel_rfl) Tryz.func7 (by kernel_rfl)
    (of_decide_eq_true (by kernel_rfl)) (by unfold Func.isWrapper; first | (rw [if_pos (by decide +kernel)]; kernel_rfl) | (rw [if_neg (by decide +kernel)]; exact ⟨rfl, rfl⟩))
    (fun os started H enc _ F => by rw [OpenClaim.pre_eq_preRow]; exact lifted os started H enc F)

theorem plain (f : FuncId) (fn : Func) (hf : Tryz.pinned.checked.prog.funcNamed Rows.topNumbersRow.func = some f) (hfn : Tryz.pinned.checked.prog.funcs[f]? = some fn) :
    true = Tryz.pinned.checked.prog.looks [] ∧ ∀ (j : Nat) t, fn.params[j]? = some t → Tryz.pinned.checked.prog.wantsStandIn t = false := by
  obtain rfl : f = 7 := Option.some.inj ((show Tryz.prog.funcNamed Rows.topNumbersRow.func = some 7 by kernel_rfl).symm.trans hf) |>.symm
  obtain rfl : fn = Tryz.f7 := (Option.some.inj (Tryz.func7.symm.trans hfn)).symm
  refine ⟨by kernel_rfl, fun j t ht => ?_⟩
  rw [Tryz.params7] at ht
  have hm : t ∈ [2] := by simpa using Array.mem_of_getElem? ht
  have hall : ([2].all fun u => !Tryz.prog.wantsStandIn u) = true := by kernel_rfl
  exact (show Tryz.prog.wantsStandIn t = false by simpa using List.all_eq_true.1 hall t hm)

theorem card : Rows.TopNumbersCardSaid :=
  Claim7.holds_tied_plain_at .later [] _ _ _ _ said (fun _ h => by cases h) (by kernel_rfl) (fun _ h => by cases h) topNumbers_row_tie rfl ⟨rfl, rfl⟩ (by kernel_rfl) rfl plain (by kernel_rfl)
end Go.Proofs.YtdjniiginnlmhaaGreatDoor.topNumbers
namespace Go.Proofs.YtdjniiginnlmhaaGreatDoor
theorem topNumbers_card : Rows.TopNumbersCardSaid := topNumbers.card
end Go.Proofs.YtdjniiginnlmhaaGreatDoor
