/-
  NumLong is proved: for every pair of uint8 the call returns true and the arguments read as they did. Its condition: the library's listed tables lie as the program's text lays them (the card ties them).
-/
import Derived.Test.YtmeiechaccpacaaDoorDecJ
import Derived.Test.YtmeiechaccpacaaDoorDecK
import Derived.Test.YtmeiechaccpacaaDoorLaid3
import Derived.Test.YtmeiechaccpacaaDoorCards
import Derived.Test.YtmeiechaccpacaaDoorTie
namespace Go.Proofs.YtmeiechaccpacaaDoor.numLong
open Go.ChangeShapes Go.WideShapes Go.ChangeAt Go.RowKit
set_option maxHeartbeats 1000000

def ones (m : Nat) : List UInt8 := List.replicate m 49
theorem ones_all (m : Nat) : (ones m).all dgB = true := by
  rw [List.all_eq_true]; intro x hx; rw [(List.mem_replicate.1 hx).2]; rfl
theorem ones_len (m : Nat) : (ones m).length = m := by simp [ones]
theorem ones_rnd (m : Nat) : rndN (ones m) = 0 := by
  rw [fifth_get, if_neg]
  rintro ⟨h1, h2⟩
  rw [getD_get _ _ h1, show (ones m)[4] = 49 from List.getElem_replicate _] at h2
  exact absurd h2 (by decide)
theorem ones_val (m : Nat) (h : 1 ≤ m) : 0 < val (four (ones m)) ∧ val (four (ones m)) ≤ 1111 := by
  match m, h with
  | 1, _ => decide
  | 2, _ => decide
  | 3, _ => decide
  | m + 4, _ =>
    have : four (ones (m + 4)) = [49, 49, 49, 49] := by
      unfold four ones; simp [List.replicate_succ]
    rw [this]; decide
theorem ones_ok (l : List UInt8) (h : l.all dgB = true) (k : Nat) (hk : l.length = k) : okD l = decide (1 ≤ k ∧ k ≤ 40) := by
  unfold okD; rw [h, hk, Bool.and_true]
theorem long_parts (n m : Nat) : minusB (zs n ++ 46 :: ones m) = false ∧ numB (zs n ++ 46 :: ones m) = (decide (1 ≤ n ∧ n ≤ 40) && decide (1 ≤ m ∧ m ≤ 40)) ∧ numN (zs n ++ 46 :: ones m) = val (four (ones m)) := by
  have hm : minusB (zs n ++ 46 :: ones m) = false := by
    cases n with
    | zero => rfl
    | succ n => rfl
  have hz : sizeL (zs n ++ 46 :: ones m) = zs n ++ 46 :: ones m := by unfold sizeL; rw [hm]; rfl
  obtain ⟨d1, d2, d3⟩ := dot_at (B := ones m) (all_zs n)
  refine ⟨hm, ?_, ?_⟩
  · unfold numB; rw [hz, d1, d2, d3, ones_ok _ (all_zs n) n (len_zs n), ones_ok _ (ones_all m) m (ones_len m)]; rfl
  · unfold numN nv; rw [hz, d2, d3, ones_rnd, val_append, val_zs]; simp
theorem long_no (n m : Nat) (h : n < 1 ∨ 40 < n ∨ m < 1 ∨ 40 < m) : rdV (zs n ++ 46 :: ones m) = 0 ∧ rdK (zs n ++ 46 :: ones m) = 0 := by
  refine no_num ?_
  rw [(long_parts n m).2.1]
  rw [Bool.and_eq_false_iff]
  simp only [decide_eq_false_iff_not]
  omega
theorem long_yes (n m : Nat) (h1 : 1 ≤ n) (h2 : n ≤ 40) (h3 : 1 ≤ m) (h4 : m ≤ 40) : (0 < rdV (zs n ++ 46 :: ones m) ∧ rdV (zs n ++ 46 :: ones m) ≤ 1111) ∧ rdK (zs n ++ 46 :: ones m) = 1 := by
  obtain ⟨p1, p2, p3⟩ := long_parts n m
  have hv := ones_val m h3
  have hb : numB (zs n ++ 46 :: ones m) = true := by rw [p2]; simp; omega
  obtain ⟨r1, r2⟩ := num_is hb (by rw [p3]; omega)
  rw [r1, r2, p1, p3]
  exact ⟨⟨by simp; omega, by simp; omega⟩, rfl⟩
theorem most_any (w : World) : Calls Tryd.prog 17 #[] w fun e w' => e = .returned (.int .i64 40) ∧ w' = w := by
  go_enter Tryd.func17, Tryd.ntmps17
  go_wp2
  go_ret
  exact ⟨rfl, rfl⟩

theorem walk (a0 a1 : Int) (w0 : (Lit.int .u8 a0).wf = true) (w1 : (Lit.int .u8 a1).wf = true) (w : World) (hT : Tab w) :
    Calls Tryd.prog 8 #[.int .u8 a0, .int .u8 a1] w fun e w' => e = .returned (.bool true) ∧ Ext w w' := by
  obtain ⟨b1, b2⟩ := u8_of_wf w0
  obtain ⟨b3, b4⟩ := u8_of_wf w1
  obtain ⟨n, hn⟩ : ∃ n : Nat, (n : Int) = a0 % 50 := ⟨(a0 % 50).toNat, by omega⟩
  obtain ⟨m, hm⟩ : ∃ m : Nat, (m : Int) = a1 % 50 := ⟨(a1 % 50).toNat, by omega⟩
  have hn2 : n < 50 := by omega
  have hm2 : m < 50 := by omega
  have c2 := fun W => most_any W
  have c3 := fun W h => lives_any W h
  clear w0 w1
  go_enter Tryd.func8, Tryd.ntmps8
  go_wp2_with fail
  rw [← hn, ← hm]
  have hn3 : (n : Int) < 50 := by omega
  have hm3 : (m : Int) < 50 := by omega
  clear hn hm b1 b2 b3 b4
  go_loop [7, 9] (fun x i => ∃ j : Nat, j ≤ n ∧ i = .int .i64 j ∧ ∃ g : ByteArray, x = .string g ∧ g.size = j ∧ Hid (g.data.toList = zs j)) (fun _ i => n - (intOf i).toNat)
  case atStart => exact ⟨0, Nat.zero_le _, rfl, ⟨#[]⟩, rfl, rfl, rfl⟩
  case round =>
    obtain ⟨j, hj, rfl, g, rfl, hg, HG⟩ := hrel
    by_cases hlt : j < n
    · have hlt' : (j : Int) < n := by omega
      have hg' : g.size < 50 := by omega
      have Hg : Hid (g.size = j) := hg
      clear hg
      go_wp2_with fail
      go_round
      case rel => exact ⟨j + 1, by omega, by go_num, _, rfl, by rw [ByteArray.size_append, Hg.out]; rfl, by show _ = _; rw [app_list, HG.out]; simp [zs, List.replicate_succ']⟩
      case measure => simp [intOf]; omega
    · obtain rfl : j = n := by omega
      have Hg : Hid (g.size = j) := hg
      have hg' : g.size < 50 := by omega
      clear hg
      go_wp2_with fail
      go_loop [8, 10] (fun x i => ∃ k : Nat, k ≤ m ∧ i = .int .i64 k ∧ ∃ h : ByteArray, x = .string h ∧ h.size = k ∧ Hid (h.data.toList = ones k)) (fun _ i => m - (intOf i).toNat)
      case atStart => exact ⟨0, Nat.zero_le _, rfl, ⟨#[]⟩, rfl, rfl, rfl⟩
      case round =>
        obtain ⟨k, hk, rfl, h, rfl, hh, HH⟩ := hrel
        by_cases hlk : k < m
        · have hlk' : (k : Int) < m := by omega
          have hh' : h.size < 50 := by omega
          have Hh : Hid (h.size = k) := hh
          clear hh
          go_wp2_with fail
          go_round
          case rel => exact ⟨k + 1, by omega, by go_num, _, rfl, by rw [ByteArray.size_append, Hh.out]; rfl, by show _ = _; rw [app_list, HH.out]; simp [ones, List.replicate_succ']⟩
          case measure => simp [intOf]; omega
        · obtain rfl : k = m := by omega
          have Hh : Hid (h.size = k) := hh
          have hh' : h.size < 50 := by omega
          have hlk' : ¬ (k : Int) < k := by omega
          clear hh
          have c1 := fun W => parse_any (g ++ ⟨#[46]⟩ ++ h) W (by unfold maxLen; rw [ByteArray.size_append, ByteArray.size_append]; have e : (⟨#[46]⟩ : ByteArray).size = 1 := rfl; omega)
          have eL : (g ++ (⟨#[46]⟩ : ByteArray) ++ h).data.toList = zs j ++ 46 :: ones k := by rw [app_list, app_list, HG.out, HH.out]; simp
          rw [eL] at c1
          clear eL
          have l1 := long_no j k
          have l2 := long_yes j k
          generalize rdV (zs j ++ 46 :: ones k) = V at *
          generalize rdK (zs j ++ 46 :: ones k) = KK at *
          have e1 : (g.size : Int) + 1 + h.size < 9223372036854775807 := by omega
          by_cases q1 : j < 1
          · obtain ⟨rfl, rfl⟩ := l1 (.inl q1)
            have q1' : (j : Int) < 1 := by omega
            clear l1 l2 q1
            go_wp2_with fail
            refine (c1 _).mono ?_
            rintro e wa ⟨rfl, EA⟩
            go_wp2_with fail
            refine (c3 _ (hT.ext EA)).mono ?_
            rintro e wd ⟨rfl, ED⟩
            go_wp2_with fail
            go_ret
            exact ⟨ret_bool rfl, EA.trans ED⟩
          have q1' : decide ((j : Int) < 1) = false := by simp; omega
          by_cases q2 : 40 < j
          · obtain ⟨rfl, rfl⟩ := l1 (.inr (.inl q2))
            have q2' : (40 : Int) < j := by omega
            clear l1 l2 q1 q2
            go_wp2_with fail
            refine (c1 _).mono ?_
            rintro e wa ⟨rfl, EA⟩
            go_wp2_with fail
            refine (c2 _).mono ?_
            rintro e wb ⟨rfl, rfl⟩
            go_wp2_with fail
            refine (c3 _ (hT.ext EA)).mono ?_
            rintro e wd ⟨rfl, ED⟩
            go_wp2_with fail
            go_ret
            exact ⟨ret_bool rfl, EA.trans ED⟩
          have q2' : decide ((40 : Int) < j) = false := by simp; omega
          by_cases q3 : k < 1
          · obtain ⟨rfl, rfl⟩ := l1 (.inr (.inr (.inl q3)))
            have q3' : (k : Int) < 1 := by omega
            clear l1 l2 q1 q2 q3
            go_wp2_with fail
            refine (c1 _).mono ?_
            rintro e wa ⟨rfl, EA⟩
            go_wp2_with fail
            refine (c2 _).mono ?_
            rintro e wb ⟨rfl, rfl⟩
            go_wp2_with fail
            refine (c3 _ (hT.ext EA)).mono ?_
            rintro e wd ⟨rfl, ED⟩
            go_wp2_with fail
            go_ret
            exact ⟨ret_bool rfl, EA.trans ED⟩
          have q3' : decide ((k : Int) < 1) = false := by simp; omega
          by_cases q4 : 40 < k
          · obtain ⟨rfl, rfl⟩ := l1 (.inr (.inr (.inr q4)))
            have q4' : (40 : Int) < k := by omega
            clear l1 l2 q1 q2 q3 q4
            go_wp2_with fail
            refine (c1 _).mono ?_
            rintro e wa ⟨rfl, EA⟩
            go_wp2_with fail
            refine (c2 _).mono ?_
            rintro e wb ⟨rfl, rfl⟩
            go_wp2_with fail
            refine (c2 _).mono ?_
            rintro e wb ⟨rfl, rfl⟩
            go_wp2_with fail
            refine (c3 _ (hT.ext EA)).mono ?_
            rintro e wd ⟨rfl, ED⟩
            go_wp2_with fail
            go_ret
            exact ⟨ret_bool rfl, EA.trans ED⟩
          have q4' : decide ((40 : Int) < k) = false := by simp; omega
          obtain ⟨⟨v1, v2⟩, rfl⟩ := l2 (by omega) (by omega) (by omega) (by omega)
          have v3 : decide ((0 : Int) < V) = true := by simpa using v1
          have v4 : decide (V ≤ (1111 : Int)) = true := by simpa using v2
          clear v1 v2
          clear l1 l2 q1 q2 q3 q4
          go_wp2_with fail
          refine (c1 _).mono ?_
          rintro e wa ⟨rfl, EA⟩
          go_wp2_with fail
          refine (c2 _).mono ?_
          rintro e wb ⟨rfl, rfl⟩
          go_wp2_with fail
          refine (c2 _).mono ?_
          rintro e wb ⟨rfl, rfl⟩
          go_wp2_with fail
          refine (c3 _ (hT.ext EA)).mono ?_
          rintro e wd ⟨rfl, ED⟩
          go_wp2_with fail
          go_ret
          exact ⟨ret_bool rfl, EA.trans ED⟩

theorem contract (H : Type) (enc : TypeId × Value → H) (W : World) (base : Nat) (args : Array Value) (ds gs : List (DataW H)) (before : List MemPlace)
    (hval0 : ∀ (j : Nat) t v, Tryd.f8.params[j]? = some t → args[j]? = some v → Value.okWide Tryd.prog W .any base t v)
    (hW : DataW.Whole enc Tryd.prog Tryd.f8.params.toList Rows.numLongSpec.vars false W args.toList ds gs before) (hL : laidMetH Tryd.prog Rows.numLongRow.laid W) :
    Calls Tryd.prog 8 args W fun e W' => ∃ v, e = .returned v ∧ Rows.numLongSpec.post enc Tryd.prog Tryd.f8 false true false false W args v W' := by
  have hval : ∀ (j : Nat) t v, Tryd.f8.params[j]? = some t → args[j]? = some v → Value.okWide Tryd.prog W .any base t v := hval0
  have hW' := hW
  obtain ⟨p, q, hA0, hV, rfl, hfz, hnd⟩ := hW
  have hA : DataW.TrodAll enc Tryd.prog W 0 (fun _ => true) true Tryd.f8.params.toList args.toList ds p := hA0
  rw [Tryd.params8] at hA hval
  obtain ⟨v0, vs0, d0, ds0, p0, q0, hargs, rfl, rfl, h0, r0⟩ := trodAll_cons hA
  obtain ⟨v1, vs1, d1, ds1, p1, q1, rfl, rfl, rfl, h1, r1⟩ := trodAll_cons r0
  obtain ⟨rfl, rfl, rfl⟩ := trodAll_nil r1
  obtain rfl : args = #[v0, v1] := by cases args; simp_all
  obtain ⟨rfl, rfl⟩ := trodVars_none hV
  obtain ⟨a0, rfl, rfl, rfl, w0⟩ := open_int Tryd.underlying5 (hval 0 5 v0 rfl rfl) h0
  obtain ⟨a1, rfl, rfl, rfl, w1⟩ := open_int Tryd.underlying5 (hval 1 5 v1 rfl rfl) h1
  clear hA0 hval0
  simp only [List.append_nil] at hW'
  refine (walk a0 a1 w0 w1 W (tab_of hL)).mono fun e W' ⟨he, bel⟩ => ?_
  subst he
  exact ⟨_, rfl, _, _, _, [], [], [], hW', trodAll_mk1 (shut_bool Tryd.underlying4 _), (trodAll_cons_mk (shut_int Tryd.underlying5 w0) (trodAll_cons_mk (shut_int Tryd.underlying5 w1) trodAll_mk0)), rfl, Below.frame bel _, fun h => by cases h⟩

theorem laid_met (os : Os) : laidMet Tryd.prog Rows.numLongRow.laid ((laidWorld os).forCall (fun _ _ => 0) ⟨#[], #[.int .u8 0, .int .u8 0], []⟩).memory :=
  laidMet_of_run' 8 (by kernel_rfl) (by kernel_rfl)
theorem reads (os : Os) {H : Type} (enc : TypeId × Value → H) : ∃ places, DataW.whole enc Tryd.prog ((laidWorld os).forCall (fun _ _ => 0) ⟨#[], #[.int .u8 0, .int .u8 0], []⟩).memory Tryd.f8.params.toList Rows.numLongSpec.vars false (#[.int .u8 0, .int .u8 0] : Array Value).toList 8 = some ([.lit (.int .u8 0), .lit (.int .u8 0)], [], places) :=
  ⟨[], by kernel_rfl⟩

set_option maxRecDepth 100000 in
theorem lifted (os : Os) (started : os.Started) (H : Type) (enc : TypeId × Value → H) (F : Stop.Interp) :
    ReturnsInHanded {} Tryd.checked os 8 .any ((OpenSpec.ofChange Rows.numLongSpec).preRow enc Tryd.prog Tryd.f8 Rows.numLongRow.domain false Rows.numLongRow.laid) (((OpenSpec.ofChange Rows.numLongSpec).at F).post enc Tryd.prog Tryd.f8 false true false false) := by
  obtain ⟨places, hx⟩ := reads os enc
  refine returnsInHanded_of_row (C := Tryd.checked) (s := OpenSpec.ofChange Rows.numLongSpec) ownK started (by kernel_rfl) Tryd.func8
    (witness_row_at (enc := enc) (C := Tryd.checked) false (laidWorld os) #[.int .u8 0, .int .u8 0] rfl (by kernel_rfl) (by kernel_rfl) (by kernel_rfl)
      (OpenSpec.preRow_of_cond 8 hx (by kernel_rfl) (fun k hk => by cases hk) (by kernel_rfl) (by
        rw [MakeChecks.laidMetH_plain _ _ _ (by kernel_rfl)]
        exact laid_met os))) ?_
  intro W base args ds gs before hval hW _ _ _ hL _ _
  exact contract H enc W base args ds gs before hval hW hL

theorem said : Rows.NumLongSaid :=
  OpenClaim.holds_of_cond 8 Tryd.f8 rfl rfl rfl rfl rfl rfl rfl ⟨rfl, rfl, rfl, rfl, rfl⟩ rfl rfl rfl rfl rfl (by kernel_rfl) Tryd.func8 (by kernel_rfl)
    (of_decide_eq_true (by kernel_rfl)) (by unfold Func.isWrapper; first | (rw [if_pos (by decide +kernel)]; kernel_rfl) | (rw [if_neg (by decide +kernel)]; exact ⟨rfl, rfl⟩))
    (fun os started H enc _ F => by rw [OpenClaim.pre_eq_preRow]; exact lifted os started H enc F)

theorem plain (f : FuncId) (fn : Func) (hf : Tryd.pinned.checked.prog.funcNamed Rows.numLongRow.func = some f) (hfn : Tryd.pinned.checked.prog.funcs[f]? = some fn) :
    false = Tryd.pinned.checked.prog.looks [] ∧ ∀ (j : Nat) t, fn.params[j]? = some t → Tryd.pinned.checked.prog.wantsStandIn t = false := by
  obtain rfl : f = 8 := Option.some.inj ((show Tryd.prog.funcNamed Rows.numLongRow.func = some 8 by kernel_rfl).symm.trans hf) |>.symm
  obtain rfl : fn = Tryd.f8 := (Option.some.inj (Tryd.func8.symm.trans hfn)).symm
  refine ⟨by kernel_rfl, fun j t ht => ?_⟩
  rw [Tryd.params8] at ht
  have hm : t ∈ [5, 5] := by simpa using Array.mem_of_getElem? ht
  have hall : ([5, 5].all fun u => !Tryd.prog.wantsStandIn u) = true := by kernel_rfl
  exact (show Tryd.prog.wantsStandIn t = false by simpa using List.all_eq_true.1 hall t hm)

theorem card : Rows.NumLongCardSaid :=
  Claim7.holds_tied_plain_at .later [] _ _ _ _ said (fun _ h => by cases h) (by kernel_rfl) (fun _ h => by cases h) numLong_row_tie rfl ⟨rfl, rfl⟩ (by kernel_rfl) rfl plain (by kernel_rfl)
end Go.Proofs.YtmeiechaccpacaaDoor.numLong
namespace Go.Proofs.YtmeiechaccpacaaDoor
theorem numLong_card : Rows.NumLongCardSaid := numLong.card
end Go.Proofs.YtmeiechaccpacaaDoor
