/-
  NumShort is proved: for every string the call returns true and the argument reads as it did. Its condition: the library's listed tables lie as the program's text lays them (the card ties them).
-/
import Derived.Test.YtmeiechaccpacaaDoorDecJ
import Derived.Test.YtmeiechaccpacaaDoorDecK
import Derived.ChangeMaps5
import Derived.Test.YtmeiechaccpacaaDoorLaid3
import Derived.Test.YtmeiechaccpacaaDoorCards
import Derived.Test.YtmeiechaccpacaaDoorTie
namespace Go.Proofs.YtmeiechaccpacaaDoor.numShort
open Go.ChangeShapes Go.WideShapes Go.ChangeAt Go.RowKit
open Go.ChangeMaps (open_string shut_string)
set_option maxHeartbeats 1000000

theorem read_kind (l : List UInt8) : (rdK l ≠ 1 → rdV l = 0) ∧ (rdK l = 1 → I64 (rdV l) ∧ canB (rdV l) = true) := by
  cases hb : numB l
  · obtain ⟨h1, h2⟩ := no_num hb
    exact ⟨fun _ => h1, fun h => by rw [h2] at h; cases h⟩
  · by_cases hg : numN l ≤ 9223372036854775807
    · obtain ⟨h1, h2⟩ := num_is hb hg
      refine ⟨fun h => absurd h2 h, fun _ => ?_⟩
      rw [h1]
      cases minusB l
      · simp only [Bool.false_eq_true, if_false]
        exact ⟨⟨by omega, by omega⟩, bne_iff_ne.2 (by omega)⟩
      · simp only [if_true]
        exact ⟨⟨by omega, by omega⟩, bne_iff_ne.2 (by omega)⟩
    · obtain ⟨h1, h2⟩ := num_great hb (by omega)
      exact ⟨fun _ => h1, fun h => by rw [h2] at h; cases h⟩
theorem dec_first (u : Nat) : ∃ c x, Lib.decDigits u = c :: x ∧ dgB c = true ∧ (c = 48 → u = 0) := by
  induction u using Nat.strongRecOn with
  | _ u ih =>
    by_cases h : u < 10
    · refine ⟨_, [], dec_one h, (dg_ofNat h).1, fun e => ?_⟩
      have := congrArg UInt8.toNat e
      rw [(dg_ofNat h).2] at this
      have e48 : (48 : UInt8).toNat = 48 := rfl
      omega
    · obtain ⟨c, x, h1, h2, h3⟩ := ih (u / 10) (by omega)
      refine ⟨c, x ++ [UInt8.ofNat (48 + u % 10)], ?_, h2, fun e => ?_⟩
      · rw [dec_step h, h1]; rfl
      · have := h3 e; omega
theorem no46 {l : List UInt8} (h : l.all dgB = true) (i : Nat) (hi : i < l.length) : l[i].toNat ≠ 46 := by
  have := dig_at l h i hi; omega
/-- No text with a dot ends in a nought; none has a nought ahead that says nothing. -/
theorem tidy (a : Int) (h : canB a = true) (ha : I64 a) (l : List UInt8) (hl : l = printL a) :
    (1 ≤ l.length ∧ l.length ≤ 21) ∧ (∀ i (hi : i < l.length), l[i].toNat = 46 → (l[l.length - 1]'(by omega)).toNat ≠ 48) ∧ l ≠ [45, 48] ∧ (l.length < 2 ∨ ∃ c x, l = c :: x ∧ (c.toNat ≠ 48 ∨ ∃ y, x = 46 :: y)) := by
  obtain ⟨b1, b2⟩ := ha
  have hp := print_sgn a h
  rw [← hl] at hp
  generalize hn : a.natAbs = n at *
  have hn2 : n ≤ 9223372036854775808 := by omega
  obtain ⟨k, hk, hf⟩ := frac_back (n % 10000) (Nat.mod_lt _ (by decide))
  have hd := dec_len (n / 10000) 14 (by omega)
  obtain ⟨c, x, f1, f2, f3⟩ := dec_first (n / 10000)
  have hbl : 1 ≤ (bodyL n).length ∧ (bodyL n).length ≤ 20 := by
    unfold bodyL; rw [List.length_append]
    split
    · simp; omega
    · simp; omega
  have hsl : l.length = (bodyL n).length ∨ l.length = (bodyL n).length + 1 := by
    rw [hp]; unfold sgnL; split
    · right; rfl
    · left; rfl
  refine ⟨by omega, ?_, ?_, ?_⟩
  · intro i hi hdot
    by_cases hz : fracL (n % 10000) = []
    · exfalso
      have hb : bodyL n = Lib.decDigits (n / 10000) := by unfold bodyL; rw [if_pos hz, List.append_nil]
      rw [hb] at hp
      have hx : ∀ y ∈ l, y.toNat ≠ 46 := by
        intro y hy
        rw [hp] at hy
        unfold sgnL at hy
        have hall := dec_all (n / 10000)
        split at hy
        · rcases List.mem_cons.1 hy with e | e
          · subst e; decide
          · have := dg_bd (List.all_eq_true.1 hall y e); omega
        · have := dg_bd (List.all_eq_true.1 hall y hy); omega
      exact hx _ (List.getElem_mem hi) hdot
    · have hb : bodyL n = Lib.decDigits (n / 10000) ++ 46 :: fracL (n % 10000) := by unfold bodyL; rw [if_neg hz]
      rcases trim_last (F4 (n % 10000)) with e | ⟨r, c', e, hc'⟩
      · rw [← frac_eq _ (Nat.mod_lt _ (by decide))] at e; exact absurd e hz
      · rw [← frac_eq _ (Nat.mod_lt _ (by decide))] at e
        have hle : ∃ u, l = u ++ [c'] := by
          rw [hp, hb, e]; unfold sgnL; split
          · exact ⟨45 :: (Lib.decDigits (n / 10000) ++ 46 :: r), by simp⟩
          · exact ⟨Lib.decDigits (n / 10000) ++ 46 :: r, by simp⟩
        obtain ⟨u, hu⟩ := hle
        subst hu
        intro hlast
        apply hc'
        have : (u ++ [c'])[(u ++ [c']).length - 1]'(by simp) = c' := by simp
        rw [this] at hlast
        exact UInt8.toNat_inj.1 hlast
  · intro e
    have hr := (read_back a h ⟨b1, b2⟩).1
    rw [← hl, e] at hr
    have h0 : a = 0 := by rw [← hr]; decide
    subst h0
    have : printL 0 = [48] := by
      unfold printL; rw [show canB 0 = true from rfl, if_pos rfl, if_neg (by decide), show (0 : Int).natAbs = 0 from rfl]
      unfold bodyL; rw [show 0 % 10000 = 0 from rfl, frac_zero, if_pos rfl, show 0 / 10000 = 0 from rfl, dec_one (by decide)]; rfl
    rw [hl, this] at e
    cases e
  · by_cases hneg : a < 0
    · right
      refine ⟨45, bodyL n, ?_, .inl (by decide)⟩
      rw [hp]; unfold sgnL; rw [if_pos (by simpa using hneg)]
    · have hp2 : l = bodyL n := by rw [hp]; unfold sgnL; rw [if_neg (by simpa using hneg)]
      by_cases hc : c = 48
      · have h0 := f3 hc
        by_cases hz : fracL (n % 10000) = []
        · left
          rw [hp2]; unfold bodyL; rw [if_pos hz, h0, dec_one (by decide)]; simp
        · right
          refine ⟨48, 46 :: fracL (n % 10000), ?_, .inr ⟨_, rfl⟩⟩
          rw [hp2]; unfold bodyL; rw [if_neg hz, h0, dec_one (by decide)]; rfl
      · right
        refine ⟨c, x ++ (if fracL (n % 10000) = [] then [] else 46 :: fracL (n % 10000)), ?_, .inl (fun e => hc (UInt8.toNat_inj.1 e))⟩
        rw [hp2]; unfold bodyL; rw [f1]; rfl

theorem walk (a0 : ByteArray) (w0 : a0.size ≤ maxLen) (w : World) (hT : Tab w) :
    Calls Tryd.prog 7 #[.string a0] w fun e w' => e = .returned (.bool true) ∧ Ext w w' := by
  have c1 := fun W => parse_any a0 W w0
  have c3 := fun W h => lives_any W h
  obtain ⟨k1, k2⟩ := read_kind a0.data.toList
  generalize rdV a0.data.toList = V at *
  generalize rdK a0.data.toList = KK at *
  clear w0
  by_cases hK : KK = 1
  · subst hK
    obtain ⟨hV, hC⟩ := k2 rfl
    have c2 := fun W h => print_any V hV W h
    obtain ⟨⟨t1, t2⟩, t3, t4, t5⟩ := tidy V hC hV _ rfl
    obtain ⟨r1, r2⟩ := read_back V hC hV
    obtain ⟨q, hq⟩ : ∃ q : ByteArray, q = ⟨(printL V).toArray⟩ := ⟨_, rfl⟩
    rw [← hq] at c2
    have hQ : q.data.toList = printL V := by rw [hq]
    rw [← hQ] at t1 t2 t3 t4 t5 r1 r2
    have hl := size_list q
    have c4 := fun W => parse_any q W (by unfold maxLen; omega)
    rw [r1, r2] at c4
    have q1 : 1 ≤ q.size := by omega
    have q2 : q.size ≤ 21 := by omega
    clear t1 t2
    have HT3 : Hid (∀ i (hi : i < q.size), q[i].toNat = 46 → (q[q.size - 1]'(by omega)).toNat ≠ 48) := by
      intro i hi hx
      have := t3 i (by omega) hx
      intro hy
      apply this
      rw [← hy]
      have e : ∀ a b : Nat, a = b → ∀ (h1 : a < q.data.toList.length) (h2 : b < q.size), q.data.toList[a] = q[b] := by intro a b e h1 h2; subst e; rfl
      rw [e (q.data.toList.length - 1) (q.size - 1) (by omega) (by omega) (by omega)]
    have HT4 : Hid (q.data.toList ≠ [45, 48]) := t4
    have HT5 : Hid (q.data.toList.length < 2 ∨ ∃ c x, q.data.toList = c :: x ∧ (c.toNat ≠ 48 ∨ ∃ y, x = 46 :: y)) := t5
    clear k1 k2 hq hQ t3 t4 t5 r1 r2 hV hC
    go_enter Tryd.func7, Tryd.ntmps7
    go_wp2_with fail
    refine (c1 _).mono ?_
    rintro e wa ⟨rfl, EA⟩
    go_wp2_with fail
    refine (c2 _ (hT.ext EA)).mono ?_
    rintro e wb ⟨rfl, EB⟩
    go_wp2_with fail
    refine (c4 _).mono ?_
    rintro e wd ⟨rfl, ED⟩
    go_wp2_with fail
    go_loop [8] (fun i => ∃ j : Nat, j ≤ q.size ∧ i = .int .i64 j) (fun i => q.size - (intOf i).toNat)
    case atStart => exact ⟨0, Nat.zero_le _, rfl⟩
    case round =>
      obtain ⟨j, hj, rfl⟩ := hrel
      by_cases hlt : j < q.size
      · have HX : Hid (q[j].toNat = 46 → q[q.size - 1].toNat ≠ 48) := HT3.out j hlt
        have el : (q.size : Int) - 1 = ((q.size - 1 : Nat) : Int) := by omega
        by_cases hd : q[j].toNat = 46
        · have h1 : ((q[j].toNat : Int) == 46) = true := by simp; omega
          have h2 : ((q[q.size - 1].toNat : Int) == 48) = false := by have := HX.out hd; simp; omega
          clear hd HX
          go_wp2_with fail
          go_round
          case rel => exact ⟨j + 1, by omega, by go_num⟩
          case measure => simp [intOf]; omega
        · have h1 : ((q[j].toNat : Int) == 46) = false := by simp; omega
          clear hd HX
          go_wp2_with fail
          go_round
          case rel => exact ⟨j + 1, by omega, by go_num⟩
          case measure => simp [intOf]; omega
      · obtain rfl : j = q.size := by omega
        have hne : (q.toList == [45, 48]) = false := by rw [ByteArray.toList_eq]; simpa using HT4.out
        have hne2 : (q.toList != [45, 48]) = true := by rw [ByteArray.toList_eq]; simpa using HT4.out
        clear HT3 HT4
        by_cases h2 : q.size < 2
        · have h2' : decide ((q.size : Int) < 2) = true := by simp; omega
          clear h2 HT5
          go_wp2_with fail
          refine (c3 _ (hT.ext ((EA.trans EB).trans ED))).mono ?_
          rintro e we ⟨rfl, EE⟩
          go_wp2_with fail
          go_ret
          exact ⟨ret_bool rfl, ((EA.trans EB).trans ED).trans EE⟩
        · have h2' : decide ((q.size : Int) < 2) = false := by simp; omega
          have hx : q[0].toNat ≠ 48 ∨ q[1].toNat = 46 := by
            rcases HT5.out with h | ⟨c, x, h, h'⟩
            · omega
            · have e0 : q[0] = c := by rw [← get_list q 0 (by omega)]; simp [h]
              rcases h' with h' | ⟨y, rfl⟩
              · left; rw [e0]; exact h'
              · right
                have e1 : q[1] = 46 := by rw [← get_list q 1 (by omega)]; simp [h]
                rw [e1]; rfl
          have b0 : 0 < q.size := by omega
          have b1 : 1 < q.size := by omega
          by_cases h0 : q[0].toNat = 48
          · have h0' : ((q[0].toNat : Int) != 48) = false := by simp; omega
            have h1' : ((q[1].toNat : Int) == 46) = true := by rcases hx with h | h; exact absurd h0 h; simp; omega
            clear hx h0 h2 HT5
            go_wp2_with fail
            refine (c3 _ (hT.ext ((EA.trans EB).trans ED))).mono ?_
            rintro e we ⟨rfl, EE⟩
            go_wp2_with fail
            go_ret
            exact ⟨ret_bool rfl, ((EA.trans EB).trans ED).trans EE⟩
          · have h0' : ((q[0].toNat : Int) != 48) = true := by simp; omega
            clear hx h0 h2 HT5
            go_wp2_with fail
            refine (c3 _ (hT.ext ((EA.trans EB).trans ED))).mono ?_
            rintro e we ⟨rfl, EE⟩
            go_wp2_with fail
            go_ret
            exact ⟨ret_bool rfl, ((EA.trans EB).trans ED).trans EE⟩
  · obtain rfl := k1 hK
    have hK' : (KK != 1) = true := by simpa using hK
    clear k1 k2 hK
    go_enter Tryd.func7, Tryd.ntmps7
    go_wp2_with fail
    refine (c1 _).mono ?_
    rintro e wa ⟨rfl, EA⟩
    go_wp2_with fail
    refine (c3 _ (hT.ext EA)).mono ?_
    rintro e wb ⟨rfl, EB⟩
    go_wp2_with fail
    go_ret
    exact ⟨ret_bool rfl, EA.trans EB⟩

theorem contract (H : Type) (enc : TypeId × Value → H) (W : World) (base : Nat) (args : Array Value) (ds gs : List (DataW H)) (before : List MemPlace)
    (hval0 : ∀ (j : Nat) t v, Tryd.f7.params[j]? = some t → args[j]? = some v → Value.okWide Tryd.prog W .any base t v)
    (hW : DataW.Whole enc Tryd.prog Tryd.f7.params.toList Rows.numShortSpec.vars false W args.toList ds gs before) (hL : laidMetH Tryd.prog Rows.numShortRow.laid W) :
    Calls Tryd.prog 7 args W fun e W' => ∃ v, e = .returned v ∧ Rows.numShortSpec.post enc Tryd.prog Tryd.f7 false true false false W args v W' := by
  have hval : ∀ (j : Nat) t v, Tryd.f7.params[j]? = some t → args[j]? = some v → Value.okWide Tryd.prog W .any base t v := hval0
  have hW' := hW
  obtain ⟨p, q, hA0, hV, rfl, hfz, hnd⟩ := hW
  have hA : DataW.TrodAll enc Tryd.prog W 0 (fun _ => true) true Tryd.f7.params.toList args.toList ds p := hA0
  rw [Tryd.params7] at hA hval
  obtain ⟨v0, vs0, d0, ds0, p0, q0, hargs, rfl, rfl, h0, r0⟩ := trodAll_cons hA
  obtain ⟨rfl, rfl, rfl⟩ := trodAll_nil r0
  obtain rfl : args = #[v0] := by cases args; simp_all
  obtain ⟨rfl, rfl⟩ := trodVars_none hV
  obtain ⟨a0, rfl, rfl, rfl, w0⟩ := open_string Tryd.underlying9 (hval 0 9 v0 rfl rfl) h0
  clear hA0 hval0
  simp only [List.append_nil] at hW'
  refine (walk a0 w0 W (tab_of hL)).mono fun e W' ⟨he, bel⟩ => ?_
  subst he
  exact ⟨_, rfl, _, _, _, [], [], [], hW', trodAll_mk1 (shut_bool Tryd.underlying4 _), (trodAll_cons_mk (shut_string Tryd.underlying9 w0) trodAll_mk0), rfl, Below.frame bel _, fun h => by cases h⟩

theorem laid_met (os : Os) : laidMet Tryd.prog Rows.numShortRow.laid ((laidWorld os).forCall (fun _ _ => 0) ⟨#[], #[.string ⟨#[]⟩], []⟩).memory :=
  laidMet_of_run' 8 (by kernel_rfl) (by kernel_rfl)
theorem reads (os : Os) {H : Type} (enc : TypeId × Value → H) : ∃ places, DataW.whole enc Tryd.prog ((laidWorld os).forCall (fun _ _ => 0) ⟨#[], #[.string ⟨#[]⟩], []⟩).memory Tryd.f7.params.toList Rows.numShortSpec.vars false (#[.string ⟨#[]⟩] : Array Value).toList 8 = some ([.lit (.string [])], [], places) :=
  ⟨[], by kernel_rfl⟩

set_option maxRecDepth 100000 in
theorem lifted (os : Os) (started : os.Started) (H : Type) (enc : TypeId × Value → H) (F : Stop.Interp) :
    ReturnsInHanded {} Tryd.checked os 7 .any ((OpenSpec.ofChange Rows.numShortSpec).preRow enc Tryd.prog Tryd.f7 Rows.numShortRow.domain false Rows.numShortRow.laid) (((OpenSpec.ofChange Rows.numShortSpec).at F).post enc Tryd.prog Tryd.f7 false true false false) := by
  obtain ⟨places, hx⟩ := reads os enc
  refine returnsInHanded_of_row (C := Tryd.checked) (s := OpenSpec.ofChange Rows.numShortSpec) ownK started (by kernel_rfl) Tryd.func7
    (witness_row_at (enc := enc) (C := Tryd.checked) false (laidWorld os) #[.string ⟨#[]⟩] rfl (by kernel_rfl) (by kernel_rfl) (by kernel_rfl)
      (OpenSpec.preRow_of_cond 8 hx (by kernel_rfl) (fun k hk => by cases hk) (by kernel_rfl) (by
        rw [MakeChecks.laidMetH_plain _ _ _ (by kernel_rfl)]
        exact laid_met os))) ?_
  intro W base args ds gs before hval hW _ _ _ hL _ _
  exact contract H enc W base args ds gs before hval hW hL

theorem said : Rows.NumShortSaid :=
  OpenClaim.holds_of_cond 7 Tryd.f7 rfl rfl rfl rfl rfl rfl rfl ⟨rfl, rfl, rfl, rfl, rfl⟩ rfl rfl rfl rfl rfl (by kernel_rfl) Tryd.func7 (by kernel_rfl)
    (of_decide_eq_true (by kernel_rfl)) (by unfold Func.isWrapper; first | (rw [if_pos (by decide +kernel)]; kernel_rfl) | (rw [if_neg (by decide +kernel)]; exact ⟨rfl, rfl⟩))
    (fun os started H enc _ F => by rw [OpenClaim.pre_eq_preRow]; exact lifted os started H enc F)

theorem plain (f : FuncId) (fn : Func) (hf : Tryd.pinned.checked.prog.funcNamed Rows.numShortRow.func = some f) (hfn : Tryd.pinned.checked.prog.funcs[f]? = some fn) :
    false = Tryd.pinned.checked.prog.looks [] ∧ ∀ (j : Nat) t, fn.params[j]? = some t → Tryd.pinned.checked.prog.wantsStandIn t = false := by
  obtain rfl : f = 7 := Option.some.inj ((show Tryd.prog.funcNamed Rows.numShortRow.func = some 7 by kernel_rfl).symm.trans hf) |>.symm
  obtain rfl : fn = Tryd.f7 := (Option.some.inj (Tryd.func7.symm.trans hfn)).symm
  refine ⟨by kernel_rfl, fun j t ht => ?_⟩
  rw [Tryd.params7] at ht
  have hm : t ∈ [9] := by simpa using Array.mem_of_getElem? ht
  have hall : ([9].all fun u => !Tryd.prog.wantsStandIn u) = true := by kernel_rfl
  exact (show Tryd.prog.wantsStandIn t = false by simpa using List.all_eq_true.1 hall t hm)

theorem card : Rows.NumShortCardSaid :=
  Claim7.holds_tied_plain_at .later [] _ _ _ _ said (fun _ h => by cases h) (by kernel_rfl) (fun _ h => by cases h) numShort_row_tie rfl ⟨rfl, rfl⟩ (by kernel_rfl) rfl plain (by kernel_rfl)
end Go.Proofs.YtmeiechaccpacaaDoor.numShort
namespace Go.Proofs.YtmeiechaccpacaaDoor
theorem numShort_card : Rows.NumShortCardSaid := numShort.card
end Go.Proofs.YtmeiechaccpacaaDoor
