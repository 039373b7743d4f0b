/-
  NumNoughts is proved: for every int64 and every pair of uint8 the call returns true and the arguments read as they did. Its condition: the library's listed tables lie as the program's text lays them (the card ties them).
-/
import Derived.Test.YtmeiechaccpacaaDoorDecJ
import Derived.Test.YtmeiechaccpacaaDoorDecK
import Derived.Test.YtmeiechaccpacaaDoorLaid3
import Derived.Test.YtmeiechaccpacaaDoorCards
import Derived.Test.YtmeiechaccpacaaDoorTie
namespace Go.Proofs.YtmeiechaccpacaaDoor.numNoughts
open Go.ChangeShapes Go.WideShapes Go.ChangeAt Go.RowKit
set_option maxHeartbeats 1000000

theorem sgn_len (b : Bool) (l : List UInt8) : l.length ≤ (sgnL b l).length ∧ (sgnL b l).length ≤ l.length + 1 := by
  cases b
  · exact ⟨Nat.le_refl _, Nat.le_succ _⟩
  · exact ⟨Nat.le_succ _, Nat.le_refl _⟩
theorem ext_rest (q : ByteArray) : (q.extract 1 q.size).data.toList = q.data.toList.drop 1 := by
  rw [Lib.extract_data, ← size_list]; exact List.take_of_length_le (by simp)
theorem dot_take (l : List UInt8) (k : Nat) (h : k < l.length) : dotB (l.take (k + 1)) = (dotB (l.take k) || (l[k] == 46)) := by
  unfold dotB; rw [List.take_succ_eq_append_getElem h, List.any_append]; simp
/-- A number's text with a dot in any case. -/
def dotted (n : Nat) : List UInt8 := Lib.decDigits (n / 10000) ++ 46 :: (if fracL (n % 10000) = [] then [48] else fracL (n % 10000))
theorem body_dot (n : Nat) : dotB (bodyL n) = decide (fracL (n % 10000) ≠ []) := by
  unfold bodyL
  by_cases h : fracL (n % 10000) = []
  · rw [if_pos h, List.append_nil, (dot_no (dec_all _)).1]; simp [h]
  · rw [if_neg h, (dot_at (dec_all _)).1]; simp [h]
theorem dotted_yes (n : Nat) (h : dotB (bodyL n) = true) : dotted n = bodyL n := by
  rw [body_dot] at h; simp at h
  unfold dotted bodyL; rw [if_neg h, if_neg h]
theorem dotted_no (n : Nat) (h : dotB (bodyL n) = false) : dotted n = bodyL n ++ [46, 48] := by
  rw [body_dot] at h; simp at h
  unfold dotted bodyL; rw [if_pos h, if_pos h]; simp
theorem body_len (n : Nat) (h : n ≤ 9223372036854775807) : (bodyL n).length ≤ 20 := by
  obtain ⟨k, hk, hl⟩ := frac_back (n % 10000) (Nat.mod_lt _ (by decide))
  have hd := dec_len (n / 10000) 14 (by omega)
  unfold bodyL; rw [List.length_append]
  split
  · simp; omega
  · simp; omega
theorem noughts (a : Int) (h : canB a = true) (ha : I64 a) (i j : Nat) (hi : i < 20) (hj : j < 30) :
    rdV (sgnL (decide (a < 0)) (zs i ++ dotted a.natAbs ++ zs j)) = a ∧ rdK (sgnL (decide (a < 0)) (zs i ++ dotted a.natAbs ++ zs j)) = 1 := by
  have hb := ha
  obtain ⟨b1, b2⟩ := hb
  have hc : a ≠ -9223372036854775808 := by simpa [canB] using h
  generalize hn : a.natAbs = n at *
  have hn2 : n ≤ 9223372036854775807 := by omega
  have hr : n % 10000 < 10000 := Nat.mod_lt _ (by decide)
  have hD := ok_digits i (n / 10000) (by omega) (by omega)
  obtain ⟨k, hk, hl⟩ := frac_back _ hr
  obtain ⟨f, j2, hf, hv, hfl⟩ : ∃ (f : List UInt8) (j2 : Nat), (if fracL (n % 10000) = [] then [48] else fracL (n % 10000)) ++ zs j = f ++ zs j2 ∧ f = fracL (n % 10000) ∧ (1 ≤ f.length + j2 ∧ f.length + j2 ≤ 40) := by
    by_cases hz : fracL (n % 10000) = []
    · refine ⟨[], j + 1, ?_, hz.symm, by simp; omega⟩
      rw [if_pos hz]; simp [zs, List.replicate_succ]
    · refine ⟨_, j, by rw [if_neg hz], rfl, ?_⟩
      have : 1 ≤ (fracL (n % 10000)).length := by
        rcases Nat.eq_zero_or_pos (fracL (n % 10000)).length with h | h
        · exact absurd (List.length_eq_zero_iff.1 h) hz
        · exact h
      omega
  have e : zs i ++ dotted n ++ zs j = (zs i ++ Lib.decDigits (n / 10000)) ++ 46 :: (f ++ zs j2) := by
    unfold dotted; rw [← hf]; simp
  have hB : okD (f ++ zs j2) = true := by
    refine okD_yes _ ?_ ?_ ?_
    · rw [List.length_append, len_zs]; omega
    · rw [List.length_append, len_zs]; omega
    · rw [List.all_append, all_zs, hv, frac_all _ hr]; rfl
  rw [e]
  obtain ⟨p1, p2, p3⟩ := num_dot (decide (a < 0)) _ _ hD hB
  refine sg_back a h ha p1 ?_ p3
  rw [p2, hv, nv_pad _ _ _ _ hr, hn]; omega
theorem walk (a0 a1 a2 : Int) (w0 : (Lit.int .i64 a0).wf = true) (w1 : (Lit.int .u8 a1).wf = true) (w2 : (Lit.int .u8 a2).wf = true) (w : World) (hT : Tab w) :
    Calls Tryd.prog 6 #[.int .i64 a0, .int .u8 a1, .int .u8 a2] w fun e w' => e = .returned (.bool true) ∧ Ext w w' := by
  have ha := i64_of_wf w0
  obtain ⟨b1, b2⟩ := u8_of_wf w1
  obtain ⟨b3, b4⟩ := u8_of_wf w2
  obtain ⟨n, hn⟩ : ∃ n : Nat, (n : Int) = a1 % 20 := ⟨(a1 % 20).toNat, by omega⟩
  obtain ⟨m, hm⟩ : ∃ m : Nat, (m : Int) = a2 % 30 := ⟨(a2 % 30).toNat, by omega⟩
  have hn2 : n < 20 := by omega
  have hm2 : m < 30 := by omega
  have c0 := fun W => rcan_any a0 W
  have c1 := fun W => rprint_any a0 ha W
  have c3 := fun W h => lives_any W h
  clear w0 w1 w2
  cases hc : canB a0
  · rw [hc] at c0
    go_enter Tryd.func6, Tryd.ntmps6
    go_wp2_with fail
    refine (c0 _).mono ?_
    rintro e wa ⟨rfl, rfl⟩
    go_wp2_with fail
    refine (c3 _ hT).mono ?_
    rintro e wb ⟨rfl, EB⟩
    go_wp2_with fail
    go_ret
    exact ⟨ret_bool rfl, EB⟩
  · rw [hc] at c0
    have HR : Hid (∀ i j : Nat, i < 20 → j < 30 → rdV (sgnL (decide (a0 < 0)) (zs i ++ dotted a0.natAbs ++ zs j)) = a0 ∧ rdK (sgnL (decide (a0 < 0)) (zs i ++ dotted a0.natAbs ++ zs j)) = 1) := noughts a0 hc ha
    have hne : a0 ≠ -9223372036854775808 := by simpa [canB] using hc
    have hbl := body_len a0.natAbs (by obtain ⟨_, _⟩ := ha; omega)
    have HP : Hid (printL a0 = sgnL (decide (a0 < 0)) (bodyL a0.natAbs)) := print_sgn a0 hc
    obtain ⟨q, hq⟩ : ∃ q : ByteArray, q = ⟨(printL a0).toArray⟩ := ⟨_, rfl⟩
    rw [← hq] at c1
    have HQ : Hid (q.data.toList = printL a0) := by show _ = _; rw [hq]
    have hqs : q.size ≤ 21 := by rw [← size_list, HQ.out, HP.out]; have := sgn_len (decide (a0 < 0)) (bodyL a0.natAbs); omega
    have hq1 : 1 ≤ q.size := by
      rw [← size_list, HQ.out, HP.out]
      have : 1 ≤ (bodyL a0.natAbs).length := by unfold bodyL; have := dec_len (a0.natAbs / 10000) 14 (by obtain ⟨_, _⟩ := ha; omega); rw [List.length_append]; omega
      have := sgn_len (decide (a0 < 0)) (bodyL a0.natAbs); omega
    clear hq hc hne ha
    go_enter Tryd.func6, Tryd.ntmps6
    go_wp2_with fail
    refine (c0 _).mono ?_
    rintro e wa ⟨rfl, rfl⟩
    go_wp2_with fail
    refine (c1 _).mono ?_
    rintro e wb ⟨rfl, EB⟩
    go_upto_if 22 with fail
    go_cut [7, 8] (fun x y wx => wx = wb ∧ ∃ g : ByteArray, ∃ s : ByteArray, x = .string g ∧ y = .string s ∧ g.size ≤ 20 ∧ s.size ≤ 1 ∧ Hid (g.data.toList = bodyL a0.natAbs) ∧ Hid (∀ l, s.data.toList ++ l = sgnL (decide (a0 < 0)) l))
    case first =>
      by_cases hneg : a0 < 0
      · have HB : Hid ((q.extract 1 q.size).data.toList = bodyL a0.natAbs) := by
          show _ = _; rw [ext_rest, HQ.out, HP.out]; unfold sgnL; rw [if_pos (by simpa using hneg)]; rfl
        have HD : Hid (∀ l, [45] ++ l = sgnL (decide (a0 < 0)) l) := by
          intro l; unfold sgnL; rw [if_pos (by simpa using hneg)]; rfl
        go_wp2_with fail
        go_meet
        case rel => exact ⟨rfl, _, ⟨#[45]⟩, rfl, rfl, by rw [ByteArray.size_extract]; omega, Nat.le_refl _, HB, HD⟩
      · have HB : Hid (q.data.toList = bodyL a0.natAbs) := by
          show _ = _; rw [HQ.out, HP.out]; unfold sgnL; rw [if_neg (by simpa using hneg)]
        have HD : Hid (∀ l, [] ++ l = sgnL (decide (a0 < 0)) l) := by
          intro l; unfold sgnL; rw [if_neg (by simpa using hneg)]; rfl
        go_wp2_with fail
        go_meet
        case rel => exact ⟨rfl, q, ⟨#[]⟩, rfl, rfl, by rw [← size_list, HB.out]; exact hbl, Nat.zero_le _, HB, HD⟩
    case rest =>
      obtain ⟨rfl, g, s, rfl, rfl, hgs, hss, HB, HD⟩ := hcut
      clear c0 c1 HP HQ hqs hq1 hbl
      have hl := size_list g
      go_wp2_with fail
      go_loop [9, 10] (fun x i => ∃ j : Nat, j ≤ g.size ∧ i = .int .i64 j ∧ x = .bool (dotB (g.data.toList.take j))) (fun _ i => g.size - (intOf i).toNat)
      case atStart => exact ⟨0, Nat.zero_le _, rfl, rfl⟩
      case round =>
        obtain ⟨j, hj, rfl, rfl⟩ := hrel
        by_cases hlt : j < g.size
        · have HT : Hid (dotB (g.data.toList.take (j + 1)) = (dotB (g.data.toList.take j) || (g[j] == 46))) := dot_take g.data.toList j (by omega)
          have hx : (g[j] == 46) = ((g[j].toNat : Int) == 46) := by
            rw [Bool.eq_iff_iff]; simp
            constructor
            · intro h; rw [h]; rfl
            · intro h; exact UInt8.toNat_inj.1 (by show g[j].toNat = 46; omega)
          rw [hx] at HT
          clear hx
          cases hd : dotB (g.data.toList.take j)
          · rw [hd] at HT
            cases hy : ((g[j].toNat : Int) == 46)
            all_goals
              rw [hy] at HT
              go_wp2_with fail
              go_round
              case rel => exact ⟨j + 1, by omega, by go_num, by rw [HT.out]; rfl⟩
              case measure => simp [intOf]; omega
          · rw [hd] at HT
            go_wp2_with fail
            go_round
            case rel => exact ⟨j + 1, by omega, by go_num, by rw [HT.out]; rfl⟩
            case measure => simp [intOf]; omega
        · obtain rfl : j = g.size := by omega
          have e : dotB (g.data.toList.take g.size) = dotB (bodyL a0.natAbs) := by rw [← hl, List.take_length, HB.out]
          rw [e]
          have hgI : (g.size : Int) ≤ 20 := by omega
          have HY : Hid (dotB (bodyL a0.natAbs) = true → dotted a0.natAbs = bodyL a0.natAbs) := dotted_yes _
          have HNo : Hid (dotB (bodyL a0.natAbs) = false → dotted a0.natAbs = bodyL a0.natAbs ++ [46, 48]) := dotted_no _
          generalize dotB (bodyL a0.natAbs) = dt at *
          clear e hlt
          go_upto_if 39 with fail
          go_cut [7] (fun x wx => wx = wc ∧ ∃ h : ByteArray, x = .string h ∧ h.size ≤ 22 ∧ Hid (h.data.toList = dotted a0.natAbs))
          case first =>
            cases dt
            · have HN2 := HNo.out rfl
              have HN3 : Hid (dotted a0.natAbs = bodyL a0.natAbs ++ [46, 48]) := HN2
              clear HN2 HNo HY
              go_wp2_with fail
              go_meet
              case rel => exact ⟨rfl, _, rfl, by rw [ByteArray.size_append]; have e : (⟨#[46, 48]⟩ : ByteArray).size = 2 := rfl; omega, by show _ = _; rw [app_list, HB.out, HN3.out]⟩
            · have HN2 := HY.out rfl
              have HN3 : Hid (dotted a0.natAbs = bodyL a0.natAbs) := HN2
              clear HN2 HNo HY
              go_wp2_with fail
              go_meet
              case rel => exact ⟨rfl, g, rfl, by omega, by show _ = _; rw [HB.out, HN3.out]⟩
          case rest =>
            obtain ⟨rfl, h, rfl, hh, HH⟩ := hcut
            clear HY HNo
            go_wp2_with fail
            go_loop [7, 11] (fun x i => ∃ j : Nat, j ≤ n ∧ i = .int .i64 j ∧ ∃ g : ByteArray, x = .string g ∧ g.size ≤ 22 + j ∧ Hid (g.data.toList = zs j ++ dotted a0.natAbs)) (fun _ i => n - (intOf i).toNat)
            case atStart => exact ⟨0, Nat.zero_le _, rfl, h, rfl, hh, HH⟩
            case round =>
              obtain ⟨j, hj, rfl, g1, rfl, hg1, HG1⟩ := hrel
              by_cases hlt : j < n
              · have hlt' : (j : Int) < a1 % 20 := by omega
                have hg' : g1.size < 50 := by omega
                go_wp2_with fail
                go_round
                case rel => exact ⟨j + 1, by omega, by go_num, _, rfl, by rw [ByteArray.size_append]; have e : (⟨#[48]⟩ : ByteArray).size = 1 := rfl; omega, by show _ = _; rw [app_list, HG1.out]; simp [zs, List.replicate_succ]⟩
                case measure => simp [intOf]; omega
              · have hlt' : ¬ (j : Int) < a1 % 20 := by omega
                obtain rfl : j = n := by omega
                go_wp2_with fail
                go_loop [7, 12] (fun x i => ∃ k : Nat, k ≤ m ∧ i = .int .i64 k ∧ ∃ g : ByteArray, x = .string g ∧ g.size ≤ 42 + k ∧ Hid (g.data.toList = zs j ++ dotted a0.natAbs ++ zs k)) (fun _ i => m - (intOf i).toNat)
                case atStart => exact ⟨0, Nat.zero_le _, rfl, g1, rfl, by omega, by show _ = _; rw [HG1.out]; simp [zs]⟩
                case round =>
                  obtain ⟨k, hk, rfl, g2, rfl, hg2, HG2⟩ := hrel
                  by_cases hlk : k < m
                  · have hlk' : (k : Int) < a2 % 30 := by omega
                    have hg' : g2.size < 80 := by omega
                    go_wp2_with fail
                    go_round
                    case rel => exact ⟨k + 1, by omega, by go_num, _, rfl, by rw [ByteArray.size_append]; have e : (⟨#[48]⟩ : ByteArray).size = 1 := rfl; omega, by show _ = _; rw [app_list, HG2.out]; simp [zs, List.replicate_succ']⟩
                    case measure => simp [intOf]; omega
                  · have hlk' : ¬ (k : Int) < a2 % 30 := by omega
                    obtain rfl : k = m := by omega
                    have hg' : g2.size < 80 := by omega
                    have cp := fun W => parse_any (s ++ g2) W (by unfold maxLen; rw [ByteArray.size_append]; omega)
                    have eL : (s ++ g2).data.toList = sgnL (decide (a0 < 0)) (zs j ++ dotted a0.natAbs ++ zs k) := by rw [app_list, HG2.out, HD.out]
                    obtain ⟨r1, r2⟩ := HR.out j k hn2 hm2
                    rw [eL, r1, r2] at cp
                    clear eL r1 r2 HR
                    go_wp2_with fail
                    refine (cp _).mono ?_
                    rintro e wx ⟨rfl, EX⟩
                    go_wp2_with fail
                    refine (c3 _ (hT.ext (EB.trans EX))).mono ?_
                    rintro e wy ⟨rfl, EY⟩
                    go_wp2_with fail
                    go_ret
                    exact ⟨ret_bool rfl, (EB.trans EX).trans EY⟩

theorem contract (H : Type) (enc : TypeId × Value → H) (W : World) (base : Nat) (args : Array Value) (ds gs : List (DataW H)) (before : List MemPlace)
    (hval0 : ∀ (j : Nat) t v, Tryd.f6.params[j]? = some t → args[j]? = some v → Value.okWide Tryd.prog W .any base t v)
    (hW : DataW.Whole enc Tryd.prog Tryd.f6.params.toList Rows.numNoughtsSpec.vars false W args.toList ds gs before) (hL : laidMetH Tryd.prog Rows.numNoughtsRow.laid W) :
    Calls Tryd.prog 6 args W fun e W' => ∃ v, e = .returned v ∧ Rows.numNoughtsSpec.post enc Tryd.prog Tryd.f6 false true false false W args v W' := by
  have hval : ∀ (j : Nat) t v, Tryd.f6.params[j]? = some t → args[j]? = some v → Value.okWide Tryd.prog W .any base t v := hval0
  have hW' := hW
  obtain ⟨p, q, hA0, hV, rfl, hfz, hnd⟩ := hW
  have hA : DataW.TrodAll enc Tryd.prog W 0 (fun _ => true) true Tryd.f6.params.toList args.toList ds p := hA0
  rw [Tryd.params6] at hA hval
  obtain ⟨v0, vs0, d0, ds0, p0, q0, hargs, rfl, rfl, h0, r0⟩ := trodAll_cons hA
  obtain ⟨v1, vs1, d1, ds1, p1, q1, rfl, rfl, rfl, h1, r1⟩ := trodAll_cons r0
  obtain ⟨v2, vs2, d2, ds2, p2, q2, rfl, rfl, rfl, h2, r2⟩ := trodAll_cons r1
  obtain ⟨rfl, rfl, rfl⟩ := trodAll_nil r2
  obtain rfl : args = #[v0, v1, v2] := by cases args; simp_all
  obtain ⟨rfl, rfl⟩ := trodVars_none hV
  obtain ⟨a0, rfl, rfl, rfl, w0⟩ := open_int Tryd.underlying2 (hval 0 2 v0 rfl rfl) h0
  obtain ⟨a1, rfl, rfl, rfl, w1⟩ := open_int Tryd.underlying5 (hval 1 5 v1 rfl rfl) h1
  obtain ⟨a2, rfl, rfl, rfl, w2⟩ := open_int Tryd.underlying5 (hval 2 5 v2 rfl rfl) h2
  clear hA0 hval0
  simp only [List.append_nil] at hW'
  refine (walk a0 a1 a2 w0 w1 w2 W (tab_of hL)).mono fun e W' ⟨he, bel⟩ => ?_
  subst he
  exact ⟨_, rfl, _, _, _, [], [], [], hW', trodAll_mk1 (shut_bool Tryd.underlying4 _), (trodAll_cons_mk (shut_int Tryd.underlying2 w0) (trodAll_cons_mk (shut_int Tryd.underlying5 w1) (trodAll_cons_mk (shut_int Tryd.underlying5 w2) trodAll_mk0))), rfl, Below.frame bel _, fun h => by cases h⟩

theorem laid_met (os : Os) : laidMet Tryd.prog Rows.numNoughtsRow.laid ((laidWorld os).forCall (fun _ _ => 0) ⟨#[], #[.int .i64 0, .int .u8 0, .int .u8 0], []⟩).memory :=
  laidMet_of_run' 8 (by kernel_rfl) (by kernel_rfl)
theorem reads (os : Os) {H : Type} (enc : TypeId × Value → H) : ∃ places, DataW.whole enc Tryd.prog ((laidWorld os).forCall (fun _ _ => 0) ⟨#[], #[.int .i64 0, .int .u8 0, .int .u8 0], []⟩).memory Tryd.f6.params.toList Rows.numNoughtsSpec.vars false (#[.int .i64 0, .int .u8 0, .int .u8 0] : Array Value).toList 8 = some ([.lit (.int .i64 0), .lit (.int .u8 0), .lit (.int .u8 0)], [], places) :=
  ⟨[], by kernel_rfl⟩

set_option maxRecDepth 100000 in
theorem lifted (os : Os) (started : os.Started) (H : Type) (enc : TypeId × Value → H) (F : Stop.Interp) :
    ReturnsInHanded {} Tryd.checked os 6 .any ((OpenSpec.ofChange Rows.numNoughtsSpec).preRow enc Tryd.prog Tryd.f6 Rows.numNoughtsRow.domain false Rows.numNoughtsRow.laid) (((OpenSpec.ofChange Rows.numNoughtsSpec).at F).post enc Tryd.prog Tryd.f6 false true false false) := by
  obtain ⟨places, hx⟩ := reads os enc
  refine returnsInHanded_of_row (C := Tryd.checked) (s := OpenSpec.ofChange Rows.numNoughtsSpec) ownK started (by kernel_rfl) Tryd.func6
    (witness_row_at (enc := enc) (C := Tryd.checked) false (laidWorld os) #[.int .i64 0, .int .u8 0, .int .u8 0] rfl (by kernel_rfl) (by kernel_rfl) (by kernel_rfl)
      (OpenSpec.preRow_of_cond 8 hx (by kernel_rfl) (fun k hk => by cases hk) (by kernel_rfl) (by
        rw [MakeChecks.laidMetH_plain _ _ _ (by kernel_rfl)]
        exact laid_met os))) ?_
  intro W base args ds gs before hval hW _ _ _ hL _ _
  exact contract H enc W base args ds gs before hval hW hL

theorem said : Rows.NumNoughtsSaid :=
  OpenClaim.holds_of_cond 6 Tryd.f6 rfl rfl rfl rfl rfl rfl rfl ⟨rfl, rfl, rfl, rfl, rfl⟩ rfl rfl rfl rfl rfl (by kernel_rfl) Tryd.func6 (by kernel_rfl)
    (of_decide_eq_true (by kernel_rfl)) (by unfold Func.isWrapper; first | (rw [if_pos (by decide +kernel)]; kernel_rfl) | (rw [if_neg (by decide +kernel)]; exact ⟨rfl, rfl⟩))
    (fun os started H enc _ F => by rw [OpenClaim.pre_eq_preRow]; exact lifted os started H enc F)

theorem plain (f : FuncId) (fn : Func) (hf : Tryd.pinned.checked.prog.funcNamed Rows.numNoughtsRow.func = some f) (hfn : Tryd.pinned.checked.prog.funcs[f]? = some fn) :
    false = Tryd.pinned.checked.prog.looks [] ∧ ∀ (j : Nat) t, fn.params[j]? = some t → Tryd.pinned.checked.prog.wantsStandIn t = false := by
  obtain rfl : f = 6 := Option.some.inj ((show Tryd.prog.funcNamed Rows.numNoughtsRow.func = some 6 by kernel_rfl).symm.trans hf) |>.symm
  obtain rfl : fn = Tryd.f6 := (Option.some.inj (Tryd.func6.symm.trans hfn)).symm
  refine ⟨by kernel_rfl, fun j t ht => ?_⟩
  rw [Tryd.params6] at ht
  have hm : t ∈ [2, 5, 5] := by simpa using Array.mem_of_getElem? ht
  have hall : ([2, 5, 5].all fun u => !Tryd.prog.wantsStandIn u) = true := by kernel_rfl
  exact (show Tryd.prog.wantsStandIn t = false by simpa using List.all_eq_true.1 hall t hm)

theorem card : Rows.NumNoughtsCardSaid :=
  Claim7.holds_tied_plain_at .later [] _ _ _ _ said (fun _ h => by cases h) (by kernel_rfl) (fun _ h => by cases h) numNoughts_row_tie rfl ⟨rfl, rfl⟩ (by kernel_rfl) rfl plain (by kernel_rfl)
end Go.Proofs.YtmeiechaccpacaaDoor.numNoughts
namespace Go.Proofs.YtmeiechaccpacaaDoor
theorem numNoughts_card : Rows.NumNoughtsCardSaid := numNoughts.card
end Go.Proofs.YtmeiechaccpacaaDoor
