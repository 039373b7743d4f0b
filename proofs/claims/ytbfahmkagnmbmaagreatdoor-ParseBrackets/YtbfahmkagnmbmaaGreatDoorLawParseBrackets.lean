/-
  ParseBrackets is proved: for every text the call returns true and the argument reads as it did. Its condition: the listed tables lie as the program text lays them (the card ties them).
-/
import Derived.Test.YtbfahmkagnmbmaaGreatDoorQ22
import Derived.Test.YtbfahmkagnmbmaaGreatDoorQ23
import Derived.Test.YtbfahmkagnmbmaaGreatDoorCards
import Derived.Test.YtbfahmkagnmbmaaGreatDoorTie
import Derived.ChangeMaps5
import Derived.SizedLaws
import Derived.Lib.SmallJoins
namespace Go.Proofs.YtbfahmkagnmbmaaGreatDoor.parseBrackets
open Go.ChangeShapes Go.WideShapes Go.ChangeAt Go.RowKit
open Go.ChangeMaps (open_string shut_string)
open Go.Joins
set_option maxHeartbeats 6000000
set_option maxRecDepth 100000

theorem walk (a0 : ByteArray) (_h0 : a0.size ≤ maxLen) (w : World) (hT : Tab8 w) (g0 : a0.size ≤ 140737488351232) :
    Calls Tryz.prog 5 #[.string a0] w fun e w' => e = .returned (.bool true) ∧ Ext w w' := by
  have HT : Hid (Tab8 w) := hT
  obtain ⟨l, hll⟩ : ∃ l, a0.data.toList = l := ⟨_, rfl⟩
  have c1 := pformula_any a0 w (by unfold maxLen; omega) hT.2 hT.1
  rw [hll] at c1
  have hq : ((⟨#[40]⟩ : ByteArray) ++ a0 ++ (⟨#[41]⟩ : ByteArray)).data.toList = 40 :: (l ++ [41]) := by rw [app_list, app_list, hll]; rfl
  have hqs : ((⟨#[40]⟩ : ByteArray) ++ a0 ++ (⟨#[41]⟩ : ByteArray)).size ≤ maxLen := by unfold maxLen; rw [ByteArray.size_append, ByteArray.size_append]; have e1 : (⟨#[40]⟩ : ByteArray).size = 1 := rfl; have e2 : (⟨#[41]⟩ : ByteArray).size = 1 := rfl; omega
  have HC2 : Hid (∀ W, Tab8 W → Calls Tryz.prog 8 #[.string ((⟨#[40]⟩ : ByteArray) ++ a0 ++ (⟨#[41]⟩ : ByteArray))] W (FormQ W (40 :: (l ++ [41])))) := fun W h => by have := pformula_any _ W hqs h.2 h.1; rw [hq] at this; exact this
  obtain ⟨t, ht⟩ : ∃ t, (parR l).1 = t := ⟨_, rfl⟩
  obtain ⟨pa, hpa⟩ : ∃ pa, (parR l).2.1 = pa := ⟨_, rfl⟩
  obtain ⟨pe, hpe⟩ : ∃ pe, (parR l).2.2 = pe := ⟨_, rfl⟩
  obtain ⟨u, hu⟩ : ∃ u, (parR (40 :: (l ++ [41]))).1 = u := ⟨_, rfl⟩
  obtain ⟨qa, hqa⟩ : ∃ qa, (parR (40 :: (l ++ [41]))).2.1 = qa := ⟨_, rfl⟩
  obtain ⟨qe, hqe⟩ : ∃ qe, (parR (40 :: (l ++ [41]))).2.2 = qe := ⟨_, rfl⟩
  have H1 : Hid ((parR l).1 = t ∧ (parR l).2.1 = pa ∧ (parR l).2.2 = pe) := ⟨ht, hpa, hpe⟩
  have H2 : Hid ((parR (40 :: (l ++ [41]))).1 = u ∧ (parR (40 :: (l ++ [41]))).2.1 = qa ∧ (parR (40 :: (l ++ [41]))).2.2 = qe) := ⟨hu, hqa, hqe⟩
  have HX : Hid (pe = 0 → qe = 2 ∨ qe = 0 ∧ u = t) := by
    intro h0
    rw [← hpe] at h0
    rcases parR_brk h0 with h | h
    · left; rw [← hqe]; exact h
    · right; rw [← hqe, ← hu, ← ht, h]; exact ⟨rfl, rfl⟩
  have HBD : Hid (STr (fun _ => True) t) := by rw [← ht]; exact same_all _ (parR_bd l)
  have s1 : (⟨#[40]⟩ : ByteArray).size = 1 := rfl
  have s2 : (⟨#[41]⟩ : ByteArray).size = 1 := rfl
  have s3 : ((⟨#[40]⟩ : ByteArray) ++ a0).size = a0.size + 1 := by rw [ByteArray.size_append, s1]; omega
  clear hT hll hq hqs ht hpa hpe hu hqa hqe
  go_enter Tryz.func5, Tryz.ntmps5
  go_wp2_with fail
  refine (c1).mono ?_
  rintro e w1 ⟨lv, rfl, hL, E1⟩
  obtain ⟨pp, cl, hlv, hcl⟩ := hL.form
  rw [H1.out.1] at hL hlv hcl
  rw [H1.out.1, H1.out.2.1, H1.out.2.2]
  obtain ⟨ln, hln⟩ : ∃ ln, t.l.length = ln := ⟨_, rfl⟩
  rw [hln] at hlv
  subst hlv
  have HL1 : Hid (IsL w1 (fun _ => True) (.slice pp ln cl) t.l ∧ Ext w w1) := ⟨hL.mono (fun _ _ _ => trivial), E1⟩
  clear hL hcl hln E1
  unfold aggX
  clear c1
  go_wp2_with fail
  refine (HC2.out _ (HT.out.ext (HL1.out.2.alloc _))).mono ?_
  rintro e w2 ⟨lv, rfl, hL, E2⟩
  obtain ⟨qq, cm, hlv, hcl⟩ := hL.form
  rw [H2.out.1] at hL hlv hcl
  rw [H2.out.1, H2.out.2.1, H2.out.2.2]
  obtain ⟨lm, hln⟩ : ∃ lm, u.l.length = lm := ⟨_, rfl⟩
  rw [hln] at hlv
  subst hlv
  have HL2 : Hid (IsL w2 (fun _ => True) (.slice qq lm cm) u.l ∧ Ext _ w2) := ⟨hL.mono (fun _ _ _ => trivial), E2⟩
  clear hL hcl hln E2
  unfold aggX
  have HA : Hid (BlkX w2 w1.heap.size t (.slice pp ln cl) ∧ IsL w2 (fun _ => True) (.slice pp ln cl) t.l ∧ Ext w w2) := ⟨blk13_top rfl HL2.out.2, HL1.out.1.ext (((Ext.refl _).alloc _).trans HL2.out.2), (HL1.out.2.alloc _).trans HL2.out.2⟩
  have hw12 : w1.heap.size < w2.heap.size := HA.out.1.1
  by_cases h0 : pe = 0
  · have p0 : (pe != 0) = false := by rw [h0]; rfl
    have p0' : (pe == 0) = true := by rw [h0]; rfl
    rcases HX.out h0 with h2 | ⟨h2, h3⟩
    · have q2 : (qe == 2) = true := by rw [h2]; rfl
      clear h0 h2
      go_wp2_with fail
      refine (plives_any _ (HT.out.2.ext (HA.out.2.2.alloc _)) (HT.out.1.ext (HA.out.2.2.alloc _))).mono ?_
      rintro e w9 ⟨rfl, E9⟩
      have HE9 : Hid (Ext w w9) := Ext.trans (HA.out.2.2.alloc _) E9
      clear E9
      go_wp2_with fail
      go_ret
      exact ⟨rfl, HE9.out⟩
    · have q2 : (qe == 2) = false := by rw [h2]; rfl
      have q0 : (qe == 0) = true := by rw [h2]; rfl
      subst h3
      have hlm : lm = ln := by
        obtain ⟨_, _, y1, _⟩ := HL2.out.1.form
        obtain ⟨_, _, y2, _⟩ := HL1.out.1.form
        cases y1; cases y2; rfl
      subst hlm
      have HSm : Hid (∀ W, Ext w2 W → Calls Tryz.prog 16 #[.agg #[.int .i64 u.k, .int .i64 u.n, .string (bs u.s), .int .i64 u.e, .int .i64 u.r.1, .int .i64 u.r.2.1, .bool u.r.2.2.1, .bool u.r.2.2.2, .int .i64 u.q.1, .int .i64 u.q.2.1, .bool u.q.2.2.1, .bool u.q.2.2.2, .slice pp lm cl], .agg #[.int .i64 u.k, .int .i64 u.n, .string (bs u.s), .int .i64 u.e, .int .i64 u.r.1, .int .i64 u.r.2.1, .bool u.r.2.2.1, .bool u.r.2.2.2, .int .i64 u.q.1, .int .i64 u.q.2.1, .bool u.q.2.2.1, .bool u.q.2.2.2, .slice qq lm cm]] W fun e w' => e = .returned (.bool true) ∧ Ext W w') := fun W e => HBD.out W pp qq lm cl cm (HA.out.2.1.ext e) (HL2.out.1.ext e)
      clear h0 h2
      obtain ⟨qa1, ⟨l0, l1, l2, l3, l4, l5, l6, l7, l8, l9, l10, l11, l12⟩, gg⟩ := HA.out.1
      go_wp2_with fail
      refine (HSm.out _ ((Ext.refl _).alloc _)).mono ?_
      rintro e w3 ⟨rfl, E3⟩
      have HE3 : Hid (Ext w w3) := (HA.out.2.2.alloc _).trans E3
      clear E3 l0 l1 l2 l3 l4 l5 l6 l7 l8 l9 l10 l11 l12 gg
      go_wp2_with fail
      refine (plives_any _ (HT.out.2.ext (HE3.out)) (HT.out.1.ext (HE3.out))).mono ?_
      rintro e w9 ⟨rfl, E9⟩
      have HE9 : Hid (Ext w w9) := Ext.trans (HE3.out) E9
      clear E9
      go_wp2_with fail
      go_ret
      exact ⟨rfl, HE9.out⟩
  · have p0 : (pe != 0) = true := by simpa using h0
    have p0' : (pe == 0) = false := by simpa using h0
    clear h0
    go_wp2_with fail
    refine (plives_any _ (HT.out.2.ext (HA.out.2.2.alloc _)) (HT.out.1.ext (HA.out.2.2.alloc _))).mono ?_
    rintro e w9 ⟨rfl, E9⟩
    have HE9 : Hid (Ext w w9) := Ext.trans (HA.out.2.2.alloc _) E9
    clear E9
    go_wp2_with fail
    go_ret
    exact ⟨rfl, HE9.out⟩

theorem contract (H : Type) (enc : TypeId × Value → H) (W : World) (base : Nat) (args : Array Value) (ds gs : List (DataW H)) (before : List MemPlace)
    (hval0 : ∀ (j : Nat) t v, Tryz.f5.params[j]? = some t → args[j]? = some v → Value.okWide Tryz.prog W .any base t v)
    (hW : DataW.Whole enc Tryz.prog Tryz.f5.params.toList Rows.parseBracketsSpec.vars false W args.toList ds gs before) (hsz0 : (DataW.weightsEach Tryz.prog (Tryz.f5.params.toList ++ (OpenSpec.ofChange Rows.parseBracketsSpec).bare.plain.varTypes Tryz.prog) (ds ++ gs)).all (· ≤ reachBytes) = true) (hL : laidMetH Tryz.prog Rows.parseBracketsRow.laid W) :
    Calls Tryz.prog 5 args W fun e W' => ∃ v, e = .returned v ∧ Rows.parseBracketsSpec.post enc Tryz.prog Tryz.f5 false true false false W args v W' := by
  have hval : ∀ (j : Nat) t v, Tryz.f5.params[j]? = some t → args[j]? = some v → Value.okWide Tryz.prog W .any base t v := hval0
  have hW' := hW
  obtain ⟨p, q, hA0, hV, rfl, hfz, hnd⟩ := hW
  have hA : DataW.TrodAll enc Tryz.prog W 0 (fun _ => true) true Tryz.f5.params.toList args.toList ds p := hA0
  rw [Tryz.params5] at hA hval
  obtain ⟨v0, vs0, d0, ds0, p0, q0, hargs, rfl, rfl, h0, r0⟩ := trodAll_cons hA
  obtain ⟨rfl, rfl, rfl⟩ := trodAll_nil r0
  obtain rfl : args = #[v0] := by cases args; simp_all
  obtain ⟨rfl, rfl⟩ := trodVars_none hV
  obtain ⟨a0, rfl, rfl, rfl, w0⟩ := open_string Tryz.underlying9 (hval 0 9 v0 rfl rfl) h0
  have g0 : a0.size ≤ 140737488351232 := by
    have h := sized_string hsz0 (j := 0) (t := 9) rfl rfl
    rw [size_list] at h
    exact h
  clear hA0 hval0 hsz0
  simp only [List.append_nil] at hW'
  refine (walk a0 w0 W (tab_of hL) g0).mono fun e W' ⟨he, bel⟩ => ?_
  subst he
  exact ⟨_, rfl, _, _, _, [], [], [], hW', trodAll_mk1 (shut_bool Tryz.underlying4 _), (trodAll_cons_mk (shut_string Tryz.underlying9 w0) trodAll_mk0), rfl, Below.frame bel _, fun h => by cases h⟩

theorem laid_met (os : Os) : laidMet Tryz.prog Rows.parseBracketsRow.laid ((laidWorld os).forCall (fun _ _ => 0) ⟨#[], #[.string ⟨#[]⟩], []⟩).memory :=
  laidMet_of_run' 8 (by kernel_rfl) (by kernel_rfl)
theorem reads (os : Os) {H : Type} (enc : TypeId × Value → H) : ∃ places, DataW.whole enc Tryz.prog ((laidWorld os).forCall (fun _ _ => 0) ⟨#[], #[.string ⟨#[]⟩], []⟩).memory Tryz.f5.params.toList Rows.parseBracketsSpec.vars false (#[.string ⟨#[]⟩] : Array Value).toList 8 = some ([.lit (.string [])], [], places) :=
  ⟨[], by kernel_rfl⟩

set_option maxRecDepth 100000 in
theorem lifted (os : Os) (started : os.Started) (H : Type) (enc : TypeId × Value → H) (F : Stop.Interp) :
    ReturnsInHanded {} Tryz.checked os 5 .any ((OpenSpec.ofChange Rows.parseBracketsSpec).preRow enc Tryz.prog Tryz.f5 Rows.parseBracketsRow.domain false Rows.parseBracketsRow.laid) (((OpenSpec.ofChange Rows.parseBracketsSpec).at F).post enc Tryz.prog Tryz.f5 false true false false) := by
  obtain ⟨places, hx⟩ := reads os enc
  refine returnsInHanded_of_row (C := Tryz.checked) (s := OpenSpec.ofChange Rows.parseBracketsSpec) ownK started (by kernel_rfl) Tryz.func5
    (witness_row_at (enc := enc) (C := Tryz.checked) false (laidWorld os) #[.string ⟨#[]⟩] rfl (by kernel_rfl) (by kernel_rfl) (by kernel_rfl)
      (OpenSpec.preRow_of_cond 8 hx (by kernel_rfl) (fun k hk => by cases hk) (by kernel_rfl) (by
        rw [MakeChecks.laidMetH_plain _ _ _ (by kernel_rfl)]
        exact laid_met os))) ?_
  intro W base args ds gs before hval hW _ _ hsz hL _ _
  exact contract H enc W base args ds gs before hval hW hsz hL

theorem said : Rows.ParseBracketsSaid :=
  OpenClaim.holds_of_cond 5 Tryz.f5 rfl rfl rfl rfl rfl rfl rfl ⟨rfl, rfl, rfl, rfl, rfl⟩ rfl rfl rfl rfl rfl (by kernel_rfl) Tryz.func5 (by kernel_rfl)
    (of_decide_eq_true (by kernel_rfl)) (by unfold Func.isWrapper; first | (rw [if_pos (by decide +kernel)]; kernel_rfl) | (rw [if_neg (by decide +kernel)]; exact ⟨rfl, rfl⟩))
    (fun os started H enc _ F => by rw [OpenClaim.pre_eq_preRow]; exact lifted os started H enc F)

theorem plain (f : FuncId) (fn : Func) (hf : Tryz.pinned.checked.prog.funcNamed Rows.parseBracketsRow.func = some f) (hfn : Tryz.pinned.checked.prog.funcs[f]? = some fn) :
    true = Tryz.pinned.checked.prog.looks [] ∧ ∀ (j : Nat) t, fn.params[j]? = some t → Tryz.pinned.checked.prog.wantsStandIn t = false := by
  obtain rfl : f = 5 := Option.some.inj ((show Tryz.prog.funcNamed Rows.parseBracketsRow.func = some 5 by kernel_rfl).symm.trans hf) |>.symm
  obtain rfl : fn = Tryz.f5 := (Option.some.inj (Tryz.func5.symm.trans hfn)).symm
  refine ⟨by kernel_rfl, fun j t ht => ?_⟩
  rw [Tryz.params5] at ht
  have hm : t ∈ [9] := by simpa using Array.mem_of_getElem? ht
  have hall : ([9].all fun u => !Tryz.prog.wantsStandIn u) = true := by kernel_rfl
  exact (show Tryz.prog.wantsStandIn t = false by simpa using List.all_eq_true.1 hall t hm)

theorem card : Rows.ParseBracketsCardSaid :=
  Claim7.holds_tied_plain_at .later [] _ _ _ _ said (fun _ h => by cases h) (by kernel_rfl) (fun _ h => by cases h) parseBrackets_row_tie rfl ⟨rfl, rfl⟩ (by kernel_rfl) rfl plain (by kernel_rfl)
end Go.Proofs.YtbfahmkagnmbmaaGreatDoor.parseBrackets
namespace Go.Proofs.YtbfahmkagnmbmaaGreatDoor
theorem parseBrackets_card : Rows.ParseBracketsCardSaid := parseBrackets.card
end Go.Proofs.YtbfahmkagnmbmaaGreatDoor
