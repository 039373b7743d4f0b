/-
  ParseBlanks is proved: for every text the call returns true and the argument reads as it did. Its condition: the listed tables lie as the program text lays them (the card ties them).
-/
import Derived.Test.YtbfahmkagnmbmaaGreatDoorQ22
import Derived.Test.YtbfahmkagnmbmaaGreatDoorQ23
import Derived.Test.YtbfahmkagnmbmaaGreatDoorQ25
import Derived.Test.YtbfahmkagnmbmaaGreatDoorCards
import Derived.Test.YtbfahmkagnmbmaaGreatDoorTie
import Derived.ChangeMaps5
import Derived.Lib.SmallJoins
namespace Go.Proofs.YtbfahmkagnmbmaaGreatDoor.parseBlanks
open Go.ChangeShapes Go.WideShapes Go.ChangeAt Go.RowKit
open Go.ChangeMaps (open_string shut_string)
open Go.Joins
set_option maxHeartbeats 6000000
set_option maxRecDepth 100000

theorem step (l : List UInt8) (ts : List Tk) (i : Nat) (t u : Tk) (h1 : ts[i]? = some t) (h2 : ts[i + 1]? = some u) : sp2 l (ts.drop i) = (l.drop t.2.1.toNat).take (u.2.1.toNat - t.2.1.toNat) ++ 32 :: 32 :: sp2 l (ts.drop (i + 1)) := by
  obtain ⟨k1, rfl⟩ := List.getElem?_eq_some_iff.mp h1
  obtain ⟨k2, rfl⟩ := List.getElem?_eq_some_iff.mp h2
  rw [List.drop_eq_getElem_cons k1, List.drop_eq_getElem_cons k2, sp2]
theorem last (l : List UInt8) (ts : List Tk) (i : Nat) (h : ts.length ≤ i + 1) : sp2 l (ts.drop i) = [] := by
  have : (ts.drop i).length ≤ 1 := by simp; omega
  match hd : ts.drop i with
  | [] => rfl
  | [_] => rfl
  | _ :: _ :: _ => rw [hd] at this; simp at this
theorem walk (a0 : ByteArray) (h0 : a0.size ≤ maxLen) (w : World) (hT : Tab8 w) :
    Calls Tryz.prog 6 #[.string a0] w fun e w' => e = .returned (.bool true) ∧ Ext w w' := by
  have HT : Hid (Tab8 w) := hT
  have hl0 := size_list a0
  obtain ⟨l, hll⟩ : ∃ l, a0.data.toList = l := ⟨_, rfl⟩
  have c1 := qwords_any a0 w h0
  rw [hll] at c1 hl0
  have HLL : Hid (a0.data.toList = l ∧ l.length = a0.size) := ⟨hll, hl0⟩
  have HC2 : Hid (∀ W, Tab8 W → Calls Tryz.prog 8 #[.string a0] W (FormQ W l)) := fun W h => by have := pformula_any a0 W h0 h.2 h.1; rw [hll] at this; exact this
  clear hll hl0 hT h0
  rcases lexR_cases l with ⟨ts, hl300, hW, hlex⟩ | ⟨p, c, hlex, hc, _⟩
  · have C1 : Calls Tryz.prog 19 #[.string a0] w fun e w' => ∃ v, e = .returned (.tuple #[v, .int .i64 0, .int .i64 0]) ∧ RdT w' v ts ∧ Ext w w' := by unfold WordsQ at c1; rw [hlex] at c1; exact c1
    have hcount := W_count l.length l 0 ts (Nat.le_refl _) hW
    have hord : Ord7 l 0 ts := W_good l l.length 0 ts (by omega) (Nat.zero_le _) (by rw [List.drop_zero]; exact hW)
    have HO : Hid (Ord7 l 0 ts ∧ W 0 l = .ok ts ∧ l.length ≤ 300) := ⟨hord, hW, hl300⟩
    obtain ⟨n, hn⟩ : ∃ n, ts.length = n := ⟨_, rfl⟩
    have HN : Hid (ts.length = n) := hn
    have hn1 : 1 ≤ n := by omega
    have hn2 : n ≤ 301 := by omega
    have ha0 : a0.size ≤ 300 := by have := HLL.out.2; omega
    clear c1 hcount hord hlex hl300 hW hn
    go_enter Tryz.func6, Tryz.ntmps6
    go_wp2_with fail
    refine C1.mono ?_
    rintro e w1 ⟨v, rfl, hR, E1⟩
    obtain ⟨rp, rc, hv, hrc⟩ := hR.form
    rw [HN.out] at hv hrc
    subst hv
    have HR : Hid (RdT w1 (.slice rp n rc) ts ∧ Ext w w1) := ⟨hR, E1⟩
    clear C1 hR E1
    go_wp2_with fail
    go_loopw [6, 7] (fun x y wr => ∃ (i : Nat) (q : ByteArray), x = .string q ∧ y = .int .i64 (i : Int) ∧ i + 1 ≤ n ∧ q.size ≤ i * 400 ∧ q.data.toList ++ sp2 l (ts.drop i) = sp2 l ts ∧ Ext w1 wr) (fun _ y _ => n - (intOf y).toNat)
    case atStart => exact ⟨0, ⟨#[]⟩, rfl, rfl, by omega, by simp [ByteArray.size], by rw [List.drop_zero]; rfl, Ext.refl _⟩
    case round =>
      obtain ⟨i, q, rfl, rfl, hi, hqs, hq, hE⟩ := hrel
      have HQ : Hid (q.data.toList ++ sp2 l (ts.drop i) = sp2 l ts ∧ Ext w1 wr) := ⟨hq, hE⟩
      clear hq hE
      by_cases hlt : i + 1 < n
      · have hltI : (i : Int) + 1 < (n : Int) := by omega
        obtain ⟨rb, ro, t, hrp, ht, hz1, hcell⟩ := HR.out.1.at (k := i) (by rw [HN.out]; omega)
        subst hrp
        obtain ⟨rb2, ro2, u, hrp2, hu, hz2, hcell2⟩ := HR.out.1.at (k := i + 1) (by rw [HN.out]; omega)
        cases hrp2
        have d1 := (hcell wr HQ.out.2).2.1
        have d2 := (hcell2 wr HQ.out.2).2.1
        obtain ⟨a, _, ga, _⟩ := HO.out.1.at ts 0 i t ht
        obtain ⟨b, _, gb, _⟩ := HO.out.1.at ts 0 (i + 1) u hu
        have hab := HO.out.1.next ht hu
        rw [ga.1, gb.1] at hab
        have hab2 : a < b := by omega
        have hbl : b ≤ a0.size := by have := gb.2.1; have := HLL.out.2; omega
        rw [ga.1] at d1
        rw [gb.1] at d2
        have HST : Hid (sp2 l (ts.drop i) = (l.drop a).take (b - a) ++ 32 :: 32 :: sp2 l (ts.drop (i + 1))) := by
          show _ = _
          have := step l ts i t u ht hu
          rw [ga.1, gb.1] at this
          exact this
        have d2' : wr.cell? ⟨rb, ro + (i * 5 + 5) + 1, none⟩ = some (.int .i64 (b : Int)) := by rw [show ro + (i * 5 + 5) + 1 = ro + (i + 1) * 5 + 1 by omega]; exact d2
        have hI1 : (a : Int) ≤ (b : Int) := by omega
        have hI2 : (b : Int) ≤ (a0.size : Int) := by omega
        have sx : (a0.extract a b).size = b - a := by rw [ByteArray.size_extract]; omega
        clear hz1 hz2 hcell hcell2 ga gb hab ht hu
        go_wp2_with fail
        go_quiet (fail)
        have HDR : Hid (Ext w1 (wr.drewN nq)) := HQ.out.2.drewN _
        generalize wr.drewN nq = wd at *
        clear d1 d2 d2'
        go_wp2_with fail
        go_roundw
        case rel =>
          refine ⟨i + 1, q ++ a0.extract a b ++ ⟨#[32, 32]⟩, rfl, by go_num, by omega, ?_, ?_, HDR.out⟩
          · rw [ByteArray.size_append, ByteArray.size_append, sx]
            have e2 : (⟨#[32, 32]⟩ : ByteArray).size = 2 := rfl
            omega
          · rw [app_list, app_list, sub_list, HLL.out.1, ← HQ.out.1, HST.out]
            have e2 : (⟨#[32, 32]⟩ : ByteArray).data.toList = [32, 32] := rfl
            rw [e2, List.append_assoc, List.append_assoc]; rfl
        case measure => show n - ((i : Int) + 1).toNat < n - ((i : Int)).toNat; omega
      · have hltI : ¬ (i : Int) + 1 < (n : Int) := by omega
        have hqd : q.data.toList = sp2 l ts := by have := HQ.out.1; rw [last l ts i (by rw [HN.out]; omega), List.append_nil] at this; exact this
        have HQD : Hid (q.data.toList = sp2 l ts ∧ (sp2 l ts).length = q.size) := ⟨hqd, by rw [← hqd]; exact size_list q⟩
        have HE0 : Hid (Ext w wr) := HR.out.2.trans HQ.out.2
        have hq2 : q.size ≤ 200000 := by have : i * 400 ≤ 301 * 400 := Nat.mul_le_mul_right _ (by omega); omega
        clear hqd hqs
        by_cases h300 : 300 < q.size
        · have hI3 : (300 : Int) < (q.size : Int) := by omega
          go_wp2_with fail
          refine (plives_any _ (HT.out.2.ext (HE0.out)) (HT.out.1.ext (HE0.out))).mono ?_
          rintro e w9 ⟨rfl, E9⟩
          have HE9 : Hid (Ext w w9) := Ext.trans (HE0.out) E9
          clear E9
          go_wp2_with fail
          go_ret
          exact ⟨rfl, HE9.out⟩
        · have hI3 : ¬ (300 : Int) < (q.size : Int) := by omega
          have hpar := parR_sp2 HO.out.2.2 HO.out.2.1 (by rw [HQD.out.2]; omega)
          have HC3 : Hid (∀ W, Tab8 W → Calls Tryz.prog 8 #[.string q] W (FormQ W (sp2 l ts))) := fun W h => by have := pformula_any q W (by unfold maxLen; omega) h.2 h.1; rw [HQD.out.1] at this; exact this
          obtain ⟨t, ht⟩ : ∃ t, (parR l).1 = t := ⟨_, rfl⟩
          obtain ⟨pa, hpa⟩ : ∃ pa, (parR l).2.1 = pa := ⟨_, rfl⟩
          obtain ⟨pe, hpe⟩ : ∃ pe, (parR l).2.2 = pe := ⟨_, rfl⟩
          obtain ⟨qa, hqa⟩ : ∃ qa, (parR (sp2 l ts)).2.1 = qa := ⟨_, rfl⟩
          have H1 : Hid ((parR l).1 = t ∧ (parR l).2.1 = pa ∧ (parR l).2.2 = pe) := ⟨ht, hpa, hpe⟩
          have H2 : Hid ((parR (sp2 l ts)).1 = t ∧ (parR (sp2 l ts)).2.1 = qa ∧ (parR (sp2 l ts)).2.2 = pe) := ⟨hpar.2.trans ht, hqa, hpar.1.trans hpe⟩
          have HBD : Hid (STr (fun _ => True) t) := by rw [← ht]; exact same_all _ (parR_bd l)
          have pp0 : (pe == pe) = true := by simp
          clear hpar ht hpa hpe hqa
          go_wp2_with fail
          refine (HC2.out _ (HT.out.ext HE0.out)).mono ?_
          rintro e w3 ⟨lv, rfl, hL, E1⟩
          obtain ⟨pp, cl, hlv, hcl⟩ := hL.form
          rw [H1.out.1] at hL hlv hcl
          rw [H1.out.1, H1.out.2.1, H1.out.2.2]
          obtain ⟨ln, hln⟩ : ∃ ln, t.l.length = ln := ⟨_, rfl⟩
          rw [hln] at hlv
          subst hlv
          have HL1 : Hid (IsL w3 (fun _ => True) (.slice pp ln cl) t.l ∧ Ext wr w3) := ⟨hL.mono (fun _ _ _ => trivial), E1⟩
          clear hL hcl hln E1
          unfold aggX
          go_wp2_with fail
          refine (HC3.out _ (HT.out.ext (HE0.out.trans (HL1.out.2.alloc _)))).mono ?_
          rintro e w4 ⟨lv, rfl, hL, E2⟩
          obtain ⟨qq, cm, hlv, hcl⟩ := hL.form
          rw [H2.out.1] at hL hlv hcl
          rw [H2.out.1, H2.out.2.1, H2.out.2.2]
          obtain ⟨lm, hln⟩ : ∃ lm, t.l.length = lm := ⟨_, rfl⟩
          rw [hln] at hlv
          subst hlv
          have HL2 : Hid (IsL w4 (fun _ => True) (.slice qq lm cm) t.l ∧ Ext _ w4) := ⟨hL.mono (fun _ _ _ => trivial), E2⟩
          clear hL hcl hln E2
          unfold aggX
          have HA : Hid (BlkX w4 w3.heap.size t (.slice pp ln cl) ∧ IsL w4 (fun _ => True) (.slice pp ln cl) t.l ∧ Ext w w4) := ⟨blk13_top rfl HL2.out.2, HL1.out.1.ext (((Ext.refl _).alloc _).trans HL2.out.2), HE0.out.trans ((HL1.out.2.alloc _).trans HL2.out.2)⟩
          have hw12 : w3.heap.size < w4.heap.size := HA.out.1.1
          have hlm : lm = ln := by
            obtain ⟨_, _, y1, _⟩ := HL2.out.1.form
            obtain ⟨_, _, y2, _⟩ := HL1.out.1.form
            cases y1; cases y2; rfl
          subst hlm
          have HSm : Hid (∀ W, Ext w4 W → Calls Tryz.prog 16 #[.agg #[.int .i64 t.k, .int .i64 t.n, .string (bs t.s), .int .i64 t.e, .int .i64 t.r.1, .int .i64 t.r.2.1, .bool t.r.2.2.1, .bool t.r.2.2.2, .int .i64 t.q.1, .int .i64 t.q.2.1, .bool t.q.2.2.1, .bool t.q.2.2.2, .slice pp lm cl], .agg #[.int .i64 t.k, .int .i64 t.n, .string (bs t.s), .int .i64 t.e, .int .i64 t.r.1, .int .i64 t.r.2.1, .bool t.r.2.2.1, .bool t.r.2.2.2, .int .i64 t.q.1, .int .i64 t.q.2.1, .bool t.q.2.2.1, .bool t.q.2.2.2, .slice qq lm cm]] W fun e w' => e = .returned (.bool true) ∧ Ext W w') := fun W e => HBD.out W pp qq lm cl cm (HA.out.2.1.ext e) (HL2.out.1.ext e)
          obtain ⟨qa1, ⟨l0, l1, l2, l3, l4, l5, l6, l7, l8, l9, l10, l11, l12⟩, gg⟩ := HA.out.1
          go_wp2_with fail
          refine (HSm.out _ ((Ext.refl _).alloc _)).mono ?_
          rintro e w5 ⟨rfl, E3⟩
          have HE3 : Hid (Ext w w5) := (HA.out.2.2.alloc _).trans E3
          clear E3 l0 l1 l2 l3 l4 l5 l6 l7 l8 l9 l10 l11 l12 gg
          go_wp2_with fail
          refine (plives_any _ (HT.out.2.ext (HE3.out)) (HT.out.1.ext (HE3.out))).mono ?_
          rintro e w9 ⟨rfl, E9⟩
          have HE9 : Hid (Ext w w9) := Ext.trans (HE3.out) E9
          clear E9
          go_wp2_with fail
          go_ret
          exact ⟨rfl, HE9.out⟩
  · have C1 : Calls Tryz.prog 19 #[.string a0] w fun e w' => ∃ v, e = .returned (.tuple #[v, .int .i64 p, .int .i64 c]) ∧ RdT w' v [] ∧ Ext w w' := by unfold WordsQ at c1; rw [hlex] at c1; exact c1
    have hc0 : (c != 0) = true := by rcases hc with rfl | rfl <;> rfl
    clear c1 hlex hc
    go_enter Tryz.func6, Tryz.ntmps6
    go_wp2_with fail
    refine C1.mono ?_
    rintro e w1 ⟨v, rfl, hR, E1⟩
    have HE0 : Hid (Ext w w1) := E1
    clear C1 hR E1
    go_wp2_with fail
    refine (plives_any _ (HT.out.2.ext (HE0.out)) (HT.out.1.ext (HE0.out))).mono ?_
    rintro e w9 ⟨rfl, E9⟩
    have HE9 : Hid (Ext w w9) := Ext.trans (HE0.out) E9
    clear E9
    go_wp2_with fail
    go_ret
    exact ⟨rfl, HE9.out⟩

theorem contract (H : Type) (enc : TypeId × Value → H) (W : World) (base : Nat) (args : Array Value) (ds gs : List (DataW H)) (before : List MemPlace)
    (hval0 : ∀ (j : Nat) t v, Tryz.f6.params[j]? = some t → args[j]? = some v → Value.okWide Tryz.prog W .any base t v)
    (hW : DataW.Whole enc Tryz.prog Tryz.f6.params.toList Rows.parseBlanksSpec.vars false W args.toList ds gs before) (hL : laidMetH Tryz.prog Rows.parseBlanksRow.laid W) :
    Calls Tryz.prog 6 args W fun e W' => ∃ v, e = .returned v ∧ Rows.parseBlanksSpec.post enc Tryz.prog Tryz.f6 false true false false W args v W' := by
  have hval : ∀ (j : Nat) t v, Tryz.f6.params[j]? = some t → args[j]? = some v → Value.okWide Tryz.prog W .any base t v := hval0
  have hW' := hW
  obtain ⟨p, q, hA0, hV, rfl, hfz, hnd⟩ := hW
  have hA : DataW.TrodAll enc Tryz.prog W 0 (fun _ => true) true Tryz.f6.params.toList args.toList ds p := hA0
  rw [Tryz.params6] at hA hval
  obtain ⟨v0, vs0, d0, ds0, p0, q0, hargs, rfl, rfl, h0, r0⟩ := trodAll_cons hA
  obtain ⟨rfl, rfl, rfl⟩ := trodAll_nil r0
  obtain rfl : args = #[v0] := by cases args; simp_all
  obtain ⟨rfl, rfl⟩ := trodVars_none hV
  obtain ⟨a0, rfl, rfl, rfl, w0⟩ := open_string Tryz.underlying9 (hval 0 9 v0 rfl rfl) h0
  clear hA0 hval0
  simp only [List.append_nil] at hW'
  refine (walk a0 w0 W (tab_of hL)).mono fun e W' ⟨he, bel⟩ => ?_
  subst he
  exact ⟨_, rfl, _, _, _, [], [], [], hW', trodAll_mk1 (shut_bool Tryz.underlying4 _), (trodAll_cons_mk (shut_string Tryz.underlying9 w0) trodAll_mk0), rfl, Below.frame bel _, fun h => by cases h⟩

theorem laid_met (os : Os) : laidMet Tryz.prog Rows.parseBlanksRow.laid ((laidWorld os).forCall (fun _ _ => 0) ⟨#[], #[.string ⟨#[]⟩], []⟩).memory :=
  laidMet_of_run' 8 (by kernel_rfl) (by kernel_rfl)
theorem reads (os : Os) {H : Type} (enc : TypeId × Value → H) : ∃ places, DataW.whole enc Tryz.prog ((laidWorld os).forCall (fun _ _ => 0) ⟨#[], #[.string ⟨#[]⟩], []⟩).memory Tryz.f6.params.toList Rows.parseBlanksSpec.vars false (#[.string ⟨#[]⟩] : Array Value).toList 8 = some ([.lit (.string [])], [], places) :=
  ⟨[], by kernel_rfl⟩

set_option maxRecDepth 100000 in
theorem lifted (os : Os) (started : os.Started) (H : Type) (enc : TypeId × Value → H) (F : Stop.Interp) :
    ReturnsInHanded {} Tryz.checked os 6 .any ((OpenSpec.ofChange Rows.parseBlanksSpec).preRow enc Tryz.prog Tryz.f6 Rows.parseBlanksRow.domain false Rows.parseBlanksRow.laid) (((OpenSpec.ofChange Rows.parseBlanksSpec).at F).post enc Tryz.prog Tryz.f6 false true false false) := by
  obtain ⟨places, hx⟩ := reads os enc
  refine returnsInHanded_of_row (C := Tryz.checked) (s := OpenSpec.ofChange Rows.parseBlanksSpec) ownK started (by kernel_rfl) Tryz.func6
    (witness_row_at (enc := enc) (C := Tryz.checked) false (laidWorld os) #[.string ⟨#[]⟩] rfl (by kernel_rfl) (by kernel_rfl) (by kernel_rfl)
      (OpenSpec.preRow_of_cond 8 hx (by kernel_rfl) (fun k hk => by cases hk) (by kernel_rfl) (by
        rw [MakeChecks.laidMetH_plain _ _ _ (by kernel_rfl)]
        exact laid_met os))) ?_
  intro W base args ds gs before hval hW _ _ _ hL _ _
  exact contract H enc W base args ds gs before hval hW hL

theorem said : Rows.ParseBlanksSaid :=
  OpenClaim.holds_of_cond 6 Tryz.f6 rfl rfl rfl rfl rfl rfl rfl ⟨rfl, rfl, rfl, rfl, rfl⟩ rfl rfl rfl rfl rfl (by kernel_rfl) Tryz.func6 (by kernel_rfl)
    (of_decide_eq_true (by kernel_rfl)) (by unfold Func.isWrapper; first | (rw [if_pos (by decide +kernel)]; kernel_rfl) | (rw [if_neg (by decide +kernel)]; exact ⟨rfl, rfl⟩))
    (fun os started H enc _ F => by rw [OpenClaim.pre_eq_preRow]; exact lifted os started H enc F)

theorem plain (f : FuncId) (fn : Func) (hf : Tryz.pinned.checked.prog.funcNamed Rows.parseBlanksRow.func = some f) (hfn : Tryz.pinned.checked.prog.funcs[f]? = some fn) :
    true = Tryz.pinned.checked.prog.looks [] ∧ ∀ (j : Nat) t, fn.params[j]? = some t → Tryz.pinned.checked.prog.wantsStandIn t = false := by
  obtain rfl : f = 6 := Option.some.inj ((show Tryz.prog.funcNamed Rows.parseBlanksRow.func = some 6 by kernel_rfl).symm.trans hf) |>.symm
  obtain rfl : fn = Tryz.f6 := (Option.some.inj (Tryz.func6.symm.trans hfn)).symm
  refine ⟨by kernel_rfl, fun j t ht => ?_⟩
  rw [Tryz.params6] at ht
  have hm : t ∈ [9] := by simpa using Array.mem_of_getElem? ht
  have hall : ([9].all fun u => !Tryz.prog.wantsStandIn u) = true := by kernel_rfl
  exact (show Tryz.prog.wantsStandIn t = false by simpa using List.all_eq_true.1 hall t hm)

theorem card : Rows.ParseBlanksCardSaid :=
  Claim7.holds_tied_plain_at .later [] _ _ _ _ said (fun _ h => by cases h) (by kernel_rfl) (fun _ h => by cases h) parseBlanks_row_tie rfl ⟨rfl, rfl⟩ (by kernel_rfl) rfl plain (by kernel_rfl)
end Go.Proofs.YtbfahmkagnmbmaaGreatDoor.parseBlanks
namespace Go.Proofs.YtbfahmkagnmbmaaGreatDoor
theorem parseBlanks_card : Rows.ParseBlanksCardSaid := parseBlanks.card
end Go.Proofs.YtbfahmkagnmbmaaGreatDoor
