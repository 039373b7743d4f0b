/-
  LexBetween is proved: for every text the call returns true and the argument reads as it did. Its condition: the listed tables (the errors and the signs) lie as the program text lays them (the card ties them).
-/
import Derived.Test.YtfppjnigbodphaaDoorLexS
import Derived.Test.YtfppjnigbodphaaDoorLexM
import Derived.Test.YtfppjnigbodphaaDoorLaid7
import Derived.Test.YtfppjnigbodphaaDoorCards
import Derived.Test.YtfppjnigbodphaaDoorTie
import Derived.ChangeMaps5
import Derived.Lib.SmallJoins
namespace Go.Proofs.YtfppjnigbodphaaDoor.lexBetween
open Go.ChangeShapes Go.WideShapes Go.ChangeAt Go.RowKit
open Go.ChangeMaps (open_string shut_string)
open Go.Joins
set_option maxHeartbeats 1000000

theorem small_wrap {x : Int} (m : Nat) (h : m ≤ 100000) (e : x = (m : Int)) : wrap64 x = (m : Int) := by subst e; unfold wrap64; omega
theorem pred_wrap (i j : Nat) (h : i = j + 1) (hi : i ≤ 100000) : wrap64 ((i : Int) - 1) = (j : Int) := by subst h; unfold wrap64; omega
set_option maxHeartbeats 20000000 in
set_option maxRecDepth 100000 in
theorem walk (a0 : ByteArray) (h0 : a0.size ≤ maxLen) (w : World) (hT : Tab7 w) :
    Calls Tryd.prog 4 #[.string a0] w fun e w' => e = .returned (.bool true) ∧ Ext w w' := by
  have c1 := words_any a0 w h0 hT
  have HT : Hid (Tab7 w) := hT
  have hl := size_list a0
  unfold WordsQ at c1
  rcases lexR_cases a0.data.toList with ⟨ts, hlen, hW, hr⟩ | ⟨p, c, hr, hc, _⟩
  · rw [hr] at c1
    simp only [] at c1
    have hord := W_good a0.data.toList a0.data.toList.length 0 ts (Nat.sub_le _ _) (Nat.zero_le _) hW
    have hlast := (W_app [] (.inl rfl) a0.data.toList.length a0.data.toList 0 ts (Nat.le_refl _) hW).1
    have hcnt := W_count a0.data.toList.length a0.data.toList 0 ts (Nat.le_refl _) hW
    rw [hl] at hlast hcnt hlen
    rw [Nat.zero_add] at hlast
    obtain ⟨n, hn⟩ : ∃ n, ts.length = n + 1 := ⟨ts.length - 1, by omega⟩
    have hlz : ts[n]? = some (endT a0.size) := by
      have h1 : ts.dropLast.length = n := by rw [List.length_dropLast]; omega
      rw [hlast, List.getElem?_append_right (by omega), h1, Nat.sub_self]; rfl
    have HO : Hid (Ord7 a0.data.toList 0 ts) := hord
    have HZ : Hid (ts[n]? = some (endT a0.size) ∧ ts.length = n + 1 ∧ n ≤ 1000) := ⟨hlz, hn, by omega⟩
    have HL : Hid (a0.data.toList.length = a0.size) := hl
    clear hr hW hord hlast hcnt hlz hT hl hn h0
    go_enter Tryd.func4, Tryd.ntmps4
    go_wp2_with fail
    refine c1.mono ?_
    rintro e1 w1 ⟨v, rfl, R1, E1⟩
    obtain ⟨p, cc, rfl, hcc⟩ := R1.form
    rw [HZ.out.2.1] at R1 hcc ⊢
    obtain ⟨b, off, tl, rfl, htl, hle, hcl⟩ := R1.at (k := n) (by rw [HZ.out.2.1]; omega)
    clear hle
    have HR : Hid (RdT w1 (.slice (some ⟨b, off, none⟩) (n + 1) cc) ts) := R1
    have HE0 : Hid (Ext w w1) := E1
    have HCL : Hid (∀ w', Ext w1 w' → w'.cell? ⟨b, off + n * 5, none⟩ = some (.int .i64 5) ∧ w'.cell? ⟨b, off + n * 5 + 1, none⟩ = some (.int .i64 (a0.size : Int)) ∧ w'.cell? ⟨b, off + n * 5 + 2, none⟩ = some (.string ⟨#[]⟩) ∧ w'.cell? ⟨b, off + n * 5 + 3, none⟩ = some (.int .i64 0) ∧ w'.cell? ⟨b, off + n * 5 + 4, none⟩ = some (.int .i64 0)) := by
      have e := HZ.out.1
      rw [htl] at e
      cases e
      exact hcl
    have hn1 : (n : Int) ≤ 1000 := by have := HZ.out.2.2; omega
    clear R1 E1 c1 htl hcl
    go_wp2_with fail
    go_loopw [6] (fun x wr => ∃ i : Nat, x = .int .i64 (i : Int) ∧ i ≤ n + 1 ∧ Ext w1 wr) (fun x _ => n + 1 - (intOf x).toNat)
    case atStart => exact ⟨0, rfl, Nat.zero_le _, Ext.refl _⟩
    case round =>
      obtain ⟨i, rfl, hi, hE⟩ := hrel
      have HE : Hid (Ext w1 wr) := hE
      clear hE
      by_cases hlt : i < n + 1
      · have hltI : (i : Int) < (n : Int) + 1 := by omega
        have wk : wrap64 ((i : Int) + 1) = ((i + 1 : Nat) : Int) := by unfold wrap64; omega
        obtain ⟨b', off', t, hp, ht, hle, hc⟩ := HR.out.at (k := i) (by rw [HZ.out.2.1]; exact hlt)
        clear hle
        simp at hp
        obtain ⟨rfl, rfl⟩ := hp
        obtain ⟨d0, d1, d2, _, _⟩ := hc _ HE.out
        obtain ⟨a, _, ⟨ga, gb, gc, gd⟩, _⟩ := HO.out.at ts 0 i t ht
        have HP : Hid (∀ j, i = j + 1 → ∃ c : Int, c < (a : Int) ∧ wr.cell? ⟨b, off + j * 5 + 1, none⟩ = some (.int .i64 c)) := by
          intro j hj
          obtain ⟨b2, off2, u, hp2, hu, _, hcu⟩ := HR.out.at (k := j) (by rw [HZ.out.2.1]; omega)
          simp at hp2
          obtain ⟨rfl, rfl⟩ := hp2
          have h1 := HO.out.next hu (by rw [← hj]; exact ht)
          rw [ga] at h1
          exact ⟨u.2.1, h1, (hcu _ HE.out).2.1⟩
        obtain ⟨k, at_, S, nn, ee⟩ := t
        have hcA : ∀ W, Ext w1 W → W.cell? ⟨b, off + i * 5, none⟩ = some (.int .i64 k) ∧ W.cell? ⟨b, off + i * 5 + 1, none⟩ = some (.int .i64 at_) ∧ W.cell? ⟨b, off + i * 5 + 2, none⟩ = some (.string (bs S)) ∧ True := fun W hW => ⟨(hc W hW).1, (hc W hW).2.1, (hc W hW).2.2.1, trivial⟩
        simp only [] at ga gc d0 d1 d2
        subst ga
        rw [HL.out] at gb
        have HK : Hid (k = 2 ∨ k = 3 → ∃ m : Nat, (a : Int) + ((bs S).size : Int) = (m : Int) ∧ a ≤ m ∧ m ≤ a0.size ∧ a0.extract a m = bs S) := by
          intro h
          obtain ⟨h1, h2⟩ := gc h
          rw [HL.out] at h1
          refine ⟨a + S.length, by rw [bs_size]; omega, by omega, h1, ?_⟩
          rw [sub_bs, h2]
        have HB : Hid (∀ g : a < a0.size, (((a0[a]).toNat : Int) == 32) = false) := by
          intro g
          have h1 : a0[a] ≠ 32 := gd (by rw [HL.out]; exact g)
          have h2 := byte_ne (c := a0[a]) 32 (by omega)
          rw [show (32 : Int) = ((32 : Nat) : Int) from rfl, h2]
          simpa using h1
        have hqs : (bs S).size ≤ 1000 ∨ ¬ (k = 2 ∨ k = 3) := by
          by_cases h : k = 2 ∨ k = 3
          · exact .inl (by rw [bs_size]; have := (gc h).1; rw [HL.out] at this; omega)
          · exact .inr h
        generalize bs S = q at d2 HK hqs hcA
        have ga1 : ¬ (a : Int) < 0 := by omega
        have ga2 : ¬ (a0.size : Int) < (a : Int) := by omega
        have ga3 : (a : Int) ≤ (a0.size : Int) := by omega
        clear gc gd ht hc
        have HD : Hid (∀ W, Ext w1 W → W.cell? ⟨b, off + i * 5, none⟩ = some (.int .i64 k) ∧ W.cell? ⟨b, off + i * 5 + 1, none⟩ = some (.int .i64 (a : Int)) ∧ W.cell? ⟨b, off + i * 5 + 2, none⟩ = some (.string q)) := fun W hW => ⟨(hcA W hW).1, (hcA W hW).2.1, (hcA W hW).2.2.1⟩
        clear hcA d0 d2
        go_upto_region 7 with fail
        go_cut [61] (fun x wx => x = .bool false ∧ Ext w1 wx)
        case first =>
          clear HK HB hqs HD
          by_cases hz : 0 < i
          · obtain ⟨j, hj⟩ : ∃ j, i = j + 1 := ⟨i - 1, by omega⟩
            obtain ⟨c, hca, dc⟩ := HP.out j hj
            have z0 : (0 : Int) < (i : Int) := by clear wk; omega
            have z1 : wrap64 ((i : Int) - 1) = (j : Int) := pred_wrap i j hj (by clear wk; omega)
            have z5 : (i : Int) - 1 = (j : Int) := by clear wk; omega
            have z2 : ¬ (a : Int) ≤ c := by clear wk; omega
            have z3 : (0 : Int) ≤ (j : Int) := Int.natCast_nonneg _
            have z4 : (j : Int) < (n : Int) + 1 := by clear wk; omega
            have zb : decide (0 < i) = true := by simp [hz]
            clear HP hca hj wk
            go_quiet (fail)
            go_wp2_with fail
            go_meet
            case rel => exact ⟨rfl, HE.out.drewN _⟩
          · have z0 : ¬ (0 : Int) < (i : Int) := by clear wk; omega
            have zb : decide (0 < i) = false := by simp; omega
            clear HP wk
            go_quiet (fail)
            go_wp2_with fail
            go_meet
            case rel => exact ⟨rfl, HE.out.drewN _⟩
        case rest =>
          clear HP HE d1
          obtain ⟨rfl, hE7⟩ := hcut
          obtain ⟨d0, d1, d2⟩ := HD.out _ hE7
          have HE7 : Hid (Ext w1 wc) := hE7
          clear hE7
          go_upto_region 10 with fail
          go_cut [116] (fun x wx => x = .bool false ∧ Ext w1 wx)
          case first =>
            clear HB HD wk
            by_cases hk : k = 2 ∨ k = 3
            · obtain ⟨m, m0, m1, m2, hx⟩ := HK.out hk
              have hq1 : q.size ≤ 1000 := hqs.resolve_right (fun h => h hk)
              have mm : ¬ (a0.size : Int) < (m : Int) := by omega
              have mb : decide ((a0.size : Int) < (m : Int)) = false := by simp; omega
              have mw : wrap64 ((a : Int) + (q.size : Int)) = (m : Int) := small_wrap m (by omega) m0
              have mi : (m : Int) ≤ (a0.size : Int) := by omega
              have ma : (a : Int) ≤ (m : Int) := by omega
              clear HK hqs
              rcases hk with rfl | rfl
              · go_quiet (fail)
                go_wp2_with fail
                go_meet
                case rel => exact ⟨rfl, HE7.out.drewN _⟩
              · go_quiet (fail)
                go_wp2_with fail
                go_meet
                case rel => exact ⟨rfl, HE7.out.drewN _⟩
            · have u1 : (k == 2) = false := by simpa using fun h => hk (.inl h)
              have u2 : (k == 3) = false := by simpa using fun h => hk (.inr h)
              clear hk HK hqs
              go_quiet (fail)
              go_wp2_with fail
              go_meet
              case rel => exact ⟨rfl, HE7.out.drewN _⟩
          case rest =>
            clear HE7 d0 d1 d2 HK hqs
            obtain ⟨rfl, hE8⟩ := hcut
            obtain ⟨_, d1, _⟩ := HD.out _ hE8
            have HE8 : Hid (Ext w1 wc) := hE8
            clear hE8 HD
            by_cases g : a < a0.size
            · have gI : (a : Int) < (a0.size : Int) := by clear wk; omega
              have gB : (((a0[a]).toNat : Int) == 32) = false := HB.out g
              go_wp2_with fail
              go_roundw
              case rel => exact ⟨i + 1, by go_num, by omega, HE8.out⟩
              case measure => simp [intOf]; omega
            · have gI : ¬ (a : Int) < (a0.size : Int) := by clear wk; omega
              go_wp2_with fail
              go_roundw
              case rel => exact ⟨i + 1, by go_num, by omega, HE8.out⟩
              case measure => simp [intOf]; omega
      · have hltI : ¬ (i : Int) < (n : Int) + 1 := by omega
        obtain ⟨d0, d1, d2, d3, d4⟩ := HCL.out _ HE.out
        have HX : Hid (Ext w wr) := HE0.out.trans HE.out
        have c4 := llives_any wr (HT.out.ext HX.out)
        have qG := gd_tk
        have qE : ∀ W, Sem.run Tryd.prog (Op.equalIn 10000 30 (.agg #[.int .i64 5, .int .i64 (a0.size : Int), .string ⟨#[]⟩, .int .i64 0, .int .i64 0]) (.agg #[.int .i64 5, .int .i64 (a0.size : Int), .string ⟨#[]⟩, .int .i64 0, .int .i64 0])) W = .ok true W := by
          intro W
          have := eq_tk (endT a0.size) (endT a0.size) W
          rw [decide_eq_true rfl] at this
          exact this
        have z0 : (0 : Int) < (n : Int) + 1 := by omega
        have z1 : wrap64 ((n : Int) + 1 - 1) = (n : Int) := by unfold wrap64; omega
        have z2 : (0 : Int) ≤ (n : Int) := by omega
        have z3 : (n : Int) < (n : Int) + 1 := by omega
        go_wp2_with fail
        refine c4.mono ?_
        rintro e4 w4 ⟨rfl, E4⟩
        have HE4 : Hid (Ext w w4) := HX.out.trans E4
        clear E4
        go_wp2_with fail
        go_ret
        exact ⟨rfl, HE4.out⟩
  · rw [hr] at c1
    simp only [] at c1
    have hc0 : (c != 0) = true := by rcases hc with rfl | rfl <;> rfl
    clear hr hc hT hl
    go_enter Tryd.func4, Tryd.ntmps4
    go_wp2_with fail
    refine c1.mono ?_
    rintro e1 w1 ⟨v, rfl, R1, E1⟩
    obtain ⟨q, cc, rfl, _⟩ := R1.form
    have HE : Hid (Ext w w1) := E1
    have c4 := llives_any w1 (HT.out.ext HE.out)
    clear R1 E1
    go_wp2_with fail
    refine c4.mono ?_
    rintro e4 w4 ⟨rfl, E4⟩
    have HE4 : Hid (Ext w w4) := HE.out.trans E4
    clear E4
    go_wp2_with fail
    go_ret
    exact ⟨rfl, HE4.out⟩

theorem contract (H : Type) (enc : TypeId × Value → H) (W : World) (base : Nat) (args : Array Value) (ds gs : List (DataW H)) (before : List MemPlace)
    (hval0 : ∀ (j : Nat) t v, Tryd.f4.params[j]? = some t → args[j]? = some v → Value.okWide Tryd.prog W .any base t v)
    (hW : DataW.Whole enc Tryd.prog Tryd.f4.params.toList Rows.lexBetweenSpec.vars false W args.toList ds gs before) (hL : laidMetH Tryd.prog Rows.lexBetweenRow.laid W) :
    Calls Tryd.prog 4 args W fun e W' => ∃ v, e = .returned v ∧ Rows.lexBetweenSpec.post enc Tryd.prog Tryd.f4 false true false false W args v W' := by
  have hval : ∀ (j : Nat) t v, Tryd.f4.params[j]? = some t → args[j]? = some v → Value.okWide Tryd.prog W .any base t v := hval0
  have hW' := hW
  obtain ⟨p, q, hA0, hV, rfl, hfz, hnd⟩ := hW
  have hA : DataW.TrodAll enc Tryd.prog W 0 (fun _ => true) true Tryd.f4.params.toList args.toList ds p := hA0
  rw [Tryd.params4] at hA hval
  obtain ⟨v0, vs0, d0, ds0, p0, q0, hargs, rfl, rfl, h0, r0⟩ := trodAll_cons hA
  obtain ⟨rfl, rfl, rfl⟩ := trodAll_nil r0
  obtain rfl : args = #[v0] := by cases args; simp_all
  obtain ⟨rfl, rfl⟩ := trodVars_none hV
  obtain ⟨a0, rfl, rfl, rfl, w0⟩ := open_string Tryd.underlying9 (hval 0 9 v0 rfl rfl) h0
  clear hA0 hval0
  simp only [List.append_nil] at hW'
  refine (walk a0 w0 W (tab_of hL)).mono fun e W' ⟨he, bel⟩ => ?_
  subst he
  exact ⟨_, rfl, _, _, _, [], [], [], hW', trodAll_mk1 (shut_bool Tryd.underlying4 _), (trodAll_cons_mk (shut_string Tryd.underlying9 w0) trodAll_mk0), rfl, Below.frame bel _, fun h => by cases h⟩

theorem laid_met (os : Os) : laidMet Tryd.prog Rows.lexBetweenRow.laid ((laidWorld os).forCall (fun _ _ => 0) ⟨#[], #[.string ⟨#[]⟩], []⟩).memory :=
  laidMet_of_run' 8 (by kernel_rfl) (by kernel_rfl)
theorem reads (os : Os) {H : Type} (enc : TypeId × Value → H) : ∃ places, DataW.whole enc Tryd.prog ((laidWorld os).forCall (fun _ _ => 0) ⟨#[], #[.string ⟨#[]⟩], []⟩).memory Tryd.f4.params.toList Rows.lexBetweenSpec.vars false (#[.string ⟨#[]⟩] : Array Value).toList 8 = some ([.lit (.string [])], [], places) :=
  ⟨[], by kernel_rfl⟩

set_option maxRecDepth 100000 in
theorem lifted (os : Os) (started : os.Started) (H : Type) (enc : TypeId × Value → H) (F : Stop.Interp) :
    ReturnsInHanded {} Tryd.checked os 4 .any ((OpenSpec.ofChange Rows.lexBetweenSpec).preRow enc Tryd.prog Tryd.f4 Rows.lexBetweenRow.domain false Rows.lexBetweenRow.laid) (((OpenSpec.ofChange Rows.lexBetweenSpec).at F).post enc Tryd.prog Tryd.f4 false true false false) := by
  obtain ⟨places, hx⟩ := reads os enc
  refine returnsInHanded_of_row (C := Tryd.checked) (s := OpenSpec.ofChange Rows.lexBetweenSpec) ownK started (by kernel_rfl) Tryd.func4
    (witness_row_at (enc := enc) (C := Tryd.checked) false (laidWorld os) #[.string ⟨#[]⟩] rfl (by kernel_rfl) (by kernel_rfl) (by kernel_rfl)
      (OpenSpec.preRow_of_cond 8 hx (by kernel_rfl) (fun k hk => by cases hk) (by kernel_rfl) (by
        rw [MakeChecks.laidMetH_plain _ _ _ (by kernel_rfl)]
        exact laid_met os))) ?_
  intro W base args ds gs before hval hW _ _ _ hL _ _
  exact contract H enc W base args ds gs before hval hW hL

theorem said : Rows.LexBetweenSaid :=
  OpenClaim.holds_of_cond 4 Tryd.f4 rfl rfl rfl rfl rfl rfl rfl ⟨rfl, rfl, rfl, rfl, rfl⟩ rfl rfl rfl rfl rfl (by kernel_rfl) Tryd.func4 (by kernel_rfl)
    (of_decide_eq_true (by kernel_rfl)) (by unfold Func.isWrapper; first | (rw [if_pos (by decide +kernel)]; kernel_rfl) | (rw [if_neg (by decide +kernel)]; exact ⟨rfl, rfl⟩))
    (fun os started H enc _ F => by rw [OpenClaim.pre_eq_preRow]; exact lifted os started H enc F)

theorem plain (f : FuncId) (fn : Func) (hf : Tryd.pinned.checked.prog.funcNamed Rows.lexBetweenRow.func = some f) (hfn : Tryd.pinned.checked.prog.funcs[f]? = some fn) :
    true = Tryd.pinned.checked.prog.looks [] ∧ ∀ (j : Nat) t, fn.params[j]? = some t → Tryd.pinned.checked.prog.wantsStandIn t = false := by
  obtain rfl : f = 4 := Option.some.inj ((show Tryd.prog.funcNamed Rows.lexBetweenRow.func = some 4 by kernel_rfl).symm.trans hf) |>.symm
  obtain rfl : fn = Tryd.f4 := (Option.some.inj (Tryd.func4.symm.trans hfn)).symm
  refine ⟨by kernel_rfl, fun j t ht => ?_⟩
  rw [Tryd.params4] at ht
  have hm : t ∈ [9] := by simpa using Array.mem_of_getElem? ht
  have hall : ([9].all fun u => !Tryd.prog.wantsStandIn u) = true := by kernel_rfl
  exact (show Tryd.prog.wantsStandIn t = false by simpa using List.all_eq_true.1 hall t hm)

theorem card : Rows.LexBetweenCardSaid :=
  Claim7.holds_tied_plain_at .later [] _ _ _ _ said (fun _ h => by cases h) (by kernel_rfl) (fun _ h => by cases h) lexBetween_row_tie rfl ⟨rfl, rfl⟩ (by kernel_rfl) rfl plain (by kernel_rfl)
end Go.Proofs.YtfppjnigbodphaaDoor.lexBetween
namespace Go.Proofs.YtfppjnigbodphaaDoor
theorem lexBetween_card : Rows.LexBetweenCardSaid := lexBetween.card
end Go.Proofs.YtfppjnigbodphaaDoor
