/-
 FuncsWhole is proved: for every int64 the call returns true and the argument reads as it did. Its condition: the listed tables (the errors, the powers of ten) lie as the program text lays them (the card ties them).
-/
import Derived.Test.YtalejeknigbhjaaGreatDoorW20
import Derived.Test.YtalejeknigbhjaaGreatDoorW21
import Derived.Test.YtalejeknigbhjaaGreatDoorCards
import Derived.Test.YtalejeknigbhjaaGreatDoorTie
import Derived.ChangeMaps5
import Derived.Lib.SmallJoins
namespace Go.Proofs.YtalejeknigbhjaaGreatDoor.funcsWhole
open Go.ChangeShapes Go.WideShapes Go.ChangeAt Go.RowKit
open Go.ChangeMaps (open_string shut_string)
open Go.Joins
set_option maxHeartbeats 1000000

theorem canB_of {x : Int} (h : x ≠ -9223372036854775808) : canB x = true := by unfold canB; simpa using h
theorem near_off (A P : Nat) (h : 0 < P) : (A ≤ nearQ A P * P ∧ nearQ A P * P - A ≤ P / 2) ∨ (nearQ A P * P < A ∧ A - nearQ A P * P ≤ P / 2) := by
 obtain ⟨n1, n2⟩ := near_mul A P
 have hdm := Nat.div_add_mod A P
 have hml := Nat.mod_lt A h
 rw [Nat.mul_comm] at hdm
 generalize nearQ A P * P = N at *
 generalize A / P * P = T at *
 generalize A % P = R at *
 by_cases g : P ≤ 2 * R
 · have := n1 g
   omega
 · have := n2 g
   omega
theorem rnd_zero (n : Int) (h : -4611686018427387904 ≤ n ∧ n ≤ 4611686018427387904) : rndB n 0 = true ∧ I64 (rndV n 0) ∧ canB (rndV n 0) = true ∧ (rndV n 0).tmod 10000 = 0 ∧ rndV n 0 - n ≤ 5000 ∧ n - rndV n 0 ≤ 5000 := by
 have hc : canB n = true := canB_of (by omega)
 have ho := near_off n.natAbs 10000 (by decide)
 have hN : rnN n 0 = nearQ n.natAbs 10000 * 10000 := rfl
 have hle : nearQ n.natAbs 10000 * 10000 ≤ 9223372036854775807 := by omega
 have hB : sgnB (rnN n 0) = true := by rw [hN]; exact sgnB_yes hle
 have hV : rndV n 0 = if n < 0 then -((nearQ n.natAbs 10000 * 10000 : Nat) : Int) else ((nearQ n.natAbs 10000 * 10000 : Nat) : Int) := by
   unfold rndV sgnV
   rw [hc, hB, hN]
   by_cases g : n < 0 <;> simp [g]
 have hm : ((nearQ n.natAbs 10000 * 10000 : Nat) : Int).tmod 10000 = 0 := by rw [Int.natCast_mul]; exact Int.mul_tmod_left _ _
 refine ⟨by unfold rndB; rw [hc, hB]; simp, ?_⟩
 rw [hV]
 generalize nearQ n.natAbs 10000 * 10000 = N at *
 by_cases g : n < 0
 · rw [if_pos g]
   refine ⟨⟨by omega, by omega⟩, canB_of (by omega), by rw [Int.neg_tmod, hm]; rfl, by omega, by omega⟩
 · rw [if_neg g]
   refine ⟨⟨by omega, by omega⟩, canB_of (by omega), hm, by omega, by omega⟩
theorem floor_is (n : Int) (h : -4611686018427387904 ≤ n ∧ n ≤ 4611686018427387904) : floorB n = true ∧ I64 (floorV n) ∧ canB (floorV n) = true ∧ (floorV n).tmod 10000 = 0 ∧ floorV n ≤ n ∧ n - floorV n < 10000 := by
 have hc : canB n = true := canB_of (by omega)
 have hs : subB n (n % 10000) = true := by unfold subB fitB canB; simp; omega
 have hV : floorV n = n - n % 10000 := by unfold floorV subV; rw [hc, hs]; rfl
 refine ⟨by unfold floorB; rw [hc, hs]; rfl, ?_⟩
 rw [hV]
 refine ⟨⟨by omega, by omega⟩, canB_of (by omega), ?_, by omega, by omega⟩
 obtain ⟨q, hq⟩ : ∃ q, n - n % 10000 = q * 10000 := ⟨n / 10000, by omega⟩
 rw [hq]
 exact Int.mul_tmod_left _ _
theorem round_of (n : Int) (h : -4611686018427387904 ≤ n ∧ n ≤ 4611686018427387904) : fnV [82, 79, 85, 78, 68] [bgR ⟨2, n, ⟨#[]⟩, 0⟩, bgR ⟨2, 0, ⟨#[]⟩, 0⟩] = .num (rndV n 0) := by
 have hc : canB n = true := canB_of (by omega)
 obtain ⟨h1, h2, h3, _⟩ := rnd_zero n h
 have s0 : sg [bgR ⟨2, n, ⟨#[]⟩, 0⟩, bgR ⟨2, 0, ⟨#[]⟩, 0⟩] 0 = .num n := by show mkNum n = _; exact mkNum_is hc
 have s1 : sg [bgR ⟨2, n, ⟨#[]⟩, 0⟩, bgR ⟨2, 0, ⟨#[]⟩, 0⟩] 1 = .num 0 := rfl
 rw [fnV_ok rfl]
 have : xCall [82, 79, 85, 78, 68] [bgR ⟨2, n, ⟨#[]⟩, 0⟩, bgR ⟨2, 0, ⟨#[]⟩, 0⟩] = .ok (V.num (rndV n 0)).rw := by
   show xRound _ = _
   unfold xRound
   rw [s0, s1]
   show (tolR (rndB n 0) (rndV n 0)).map V.rw = _
   rw [h1]
   show Except.ok (mkNum (rndV n 0)).rw = _
   rw [mkNum_is h3]
 rw [this]
 exact (nm_of (.num (rndV n 0)) ⟨h2, h3⟩).1
theorem floor_of (n : Int) (h : -4611686018427387904 ≤ n ∧ n ≤ 4611686018427387904) : fnV [70, 76, 79, 79, 82] [bgR ⟨2, n, ⟨#[]⟩, 0⟩] = .num (floorV n) := by
 have hc : canB n = true := canB_of (by omega)
 obtain ⟨h1, h2, h3, _⟩ := floor_is n h
 have s0 : sg [bgR ⟨2, n, ⟨#[]⟩, 0⟩] 0 = .num n := by show mkNum n = _; exact mkNum_is hc
 rw [fnV_ok rfl]
 have : xCall [70, 76, 79, 79, 82] [bgR ⟨2, n, ⟨#[]⟩, 0⟩] = .ok (V.num (floorV n)).rw := by
   show xFloor _ = _
   unfold xFloor
   rw [s0]
   show (tolR (floorB n) (floorV n)).map V.rw = _
   rw [h1]
   show Except.ok (mkNum (floorV n)).rw = _
   rw [mkNum_is h3]
 rw [this]
 exact (nm_of (.num (floorV n)) ⟨h2, h3⟩).1
set_option maxRecDepth 100000 in
theorem walk (a0 : Int) (w : World) (w0 : (Lit.int .i64 a0).wf = true) (hN : Nm w) (hT : Tab w) :
   Calls Tryz.prog 6 #[.int .i64 a0] w fun e w' => e = .returned (.bool true) ∧ Ext w w' := by
 have hI : I64 a0 := by have := w0; simp [Lit.wf] at this; unfold I64; exact this
 have cV := fun W (e : Ext w W) => lives14_any W (hN.ext e) (hT.ext e)
 by_cases h1 : a0 < -4611686018427387904
 · clear w0 hI
   go_enter Tryz.func6, Tryz.ntmps6
   go_wp2_with fail
   refine (cV _ (Ext.refl _)).mono ?_
   rintro e w1 ⟨rfl, E1⟩
   go_wp2_with fail
   go_ret
   exact ⟨rfl, E1⟩
 by_cases h2 : a0 > 4611686018427387904
 · clear w0 hI
   go_enter Tryz.func6, Tryz.ntmps6
   go_wp2_with fail
   refine (cV _ (Ext.refl _)).mono ?_
   rintro e w1 ⟨rfl, E1⟩
   go_wp2_with fail
   go_ret
   exact ⟨rfl, E1⟩
 have hb : -4611686018427387904 ≤ a0 ∧ a0 ≤ 4611686018427387904 := by omega
 have HC : Hid (canB a0 = true) := canB_of (by omega)
 obtain ⟨_, ⟨r1, r2⟩, _, r3, r4, r5⟩ := rnd_zero a0 hb
 obtain ⟨_, ⟨f1, f2⟩, _, f3, f4, f5⟩ := floor_is a0 hb
 have cN : ∀ n W, canB n = true → Calls Tryz.prog 17 #[.int .i64 n] W fun r w' => r = .returned (.agg #[.int .i64 2, .int .i64 n, .string ⟨#[]⟩, .int .i64 0]) ∧ Ext W w' := fun n W h => by
   have := rnum_any n W
   rwa [mkNum_is h] at this
 have cR := fun (W : World) (g0 g1 : Nat) B0 B1 E => call_2 ⟨#[82, 79, 85, 78, 68]⟩ ⟨2, a0, ⟨#[]⟩, 0⟩ ⟨2, 0, ⟨#[]⟩, 0⟩ (by intro r hr; simp at hr; rcases hr with rfl | rfl; exact hI; exact ⟨by decide, by decide⟩) hN hT (W := W) (g0 := g0) (g1 := g1) B0 B1 E
 rw [show (⟨#[82, 79, 85, 78, 68]⟩ : ByteArray).data.toList = [82, 79, 85, 78, 68] from rfl, round_of a0 hb] at cR
 have cF := fun (W : World) (g0 : Nat) B0 E => call_1 ⟨#[70, 76, 79, 79, 82]⟩ ⟨2, a0, ⟨#[]⟩, 0⟩ (by intro r hr; simp at hr; subst hr; exact hI) hN hT (W := W) (g0 := g0) B0 E
 rw [show (⟨#[70, 76, 79, 79, 82]⟩ : ByteArray).data.toList = [70, 76, 79, 79, 82] from rfl, floor_of a0 hb] at cF
 simp only [V.k, V.n, V.s, V.e] at cR cF
 generalize rndV a0 0 = r at *
 generalize floorV a0 = f at *
 have k1 : (r.tmod 10000 != 0) = false := by rw [r3]; rfl
 have k2 : (f.tmod 10000 != 0) = false := by rw [f3]; rfl
 have k3 : wrap64 (r - a0) = r - a0 := by unfold wrap64; omega
 have k4 : wrap64 (a0 - r) = a0 - r := by unfold wrap64; omega
 have k5 : wrap64 (a0 - f) = a0 - f := by unfold wrap64; omega
 obtain ⟨b1, b2⟩ := hb
 clear w0 hI h1 h2
 go_enter Tryz.func6, Tryz.ntmps6
 go_wp2_with fail
 refine (cN _ _ HC.out).mono ?_
 rintro e w1 ⟨rfl, Ew1⟩
 have Hw1 : Hid (Ext w w1) := (Ext.refl _).trans Ew1
 clear Ew1
 go_wp2_with fail
 refine (of_any 2 a0 ⟨#[]⟩ 0 _).mono ?_
 rintro e w2 ⟨g2, rfl, Bw2, Ew2⟩
 have Hw2 : Hid (Ext w w2 ∧ Blk w2 g2 (.int .i64 2) (.int .i64 a0) (.string ⟨#[]⟩) (.int .i64 0)) := ⟨(Hw1.out).trans Ew2, Bw2⟩
 clear Ew2 Bw2
 go_wp2_with fail
 refine (cN _ _ (by decide)).mono ?_
 rintro e w3 ⟨rfl, Ew3⟩
 have Hw3 : Hid (Ext w w3 ∧ Blk w3 g2 (.int .i64 2) (.int .i64 a0) (.string ⟨#[]⟩) (.int .i64 0)) := ⟨(Hw2.out.1).trans Ew3, (Hw2.out.2).ext Ew3⟩
 clear Ew3
 go_wp2_with fail
 refine (of_any 2 0 ⟨#[]⟩ 0 _).mono ?_
 rintro e w4 ⟨g4, rfl, Bw4, Ew4⟩
 have Hw4 : Hid (Ext w w4 ∧ Blk w4 g2 (.int .i64 2) (.int .i64 a0) (.string ⟨#[]⟩) (.int .i64 0) ∧ Blk w4 g4 (.int .i64 2) (.int .i64 0) (.string ⟨#[]⟩) (.int .i64 0)) := ⟨(Hw3.out.1).trans Ew4, (Hw3.out.2).ext Ew4, Bw4⟩
 clear Ew4 Bw4
 go_wp2_with fail
 refine (cR _ _ _ (Hw4.out.2.1) (Hw4.out.2.2) (Hw4.out.1)).mono ?_
 rintro e w5 ⟨rfl, Ew5⟩
 have Hw5 : Hid (Ext w w5 ∧ Blk w5 g2 (.int .i64 2) (.int .i64 a0) (.string ⟨#[]⟩) (.int .i64 0) ∧ Blk w5 g4 (.int .i64 2) (.int .i64 0) (.string ⟨#[]⟩) (.int .i64 0)) := ⟨(Hw4.out.1).trans Ew5, (Hw4.out.2.1).ext Ew5, (Hw4.out.2.2).ext Ew5⟩
 clear Ew5
 have KHw5 : Hid (Ext w w5) := Hw5.out.1
 clear Hw5
 go_wp2_with fail
 refine (cN _ _ HC.out).mono ?_
 rintro e w6 ⟨rfl, Ew6⟩
 have Bw6 := blk_top (b := w5.heap.size) (by simp) Ew6
 have Hw6 : Hid (Ext w w6 ∧ Blk w6 w5.heap.size (.int .i64 2) (.int .i64 r) (.string ⟨#[]⟩) (.int .i64 0)) := ⟨(KHw5.out).trans (((Ext.refl _).alloc _).trans Ew6), Bw6⟩
 clear Ew6 Bw6
 go_wp2_with fail
 refine (of_any 2 a0 ⟨#[]⟩ 0 _).mono ?_
 rintro e w7 ⟨g7, rfl, Bw7, Ew7⟩
 have Hw7 : Hid (Ext w w7 ∧ Blk w7 w5.heap.size (.int .i64 2) (.int .i64 r) (.string ⟨#[]⟩) (.int .i64 0) ∧ Blk w7 g7 (.int .i64 2) (.int .i64 a0) (.string ⟨#[]⟩) (.int .i64 0)) := ⟨(Hw6.out.1).trans Ew7, (Hw6.out.2).ext Ew7, Bw7⟩
 clear Ew7 Bw7
 go_wp2_with fail
 refine (cF _ _ (Hw7.out.2.2) (Hw7.out.1)).mono ?_
 rintro e w8 ⟨rfl, Ew8⟩
 have Hw8 : Hid (Ext w w8 ∧ Blk w8 w5.heap.size (.int .i64 2) (.int .i64 r) (.string ⟨#[]⟩) (.int .i64 0) ∧ Blk w8 g7 (.int .i64 2) (.int .i64 a0) (.string ⟨#[]⟩) (.int .i64 0)) := ⟨(Hw7.out.1).trans Ew8, (Hw7.out.2.1).ext Ew8, (Hw7.out.2.2).ext Ew8⟩
 clear Ew8
 have KHw8 : Hid (Ext w w8 ∧ Blk w8 w5.heap.size (.int .i64 2) (.int .i64 r) (.string ⟨#[]⟩) (.int .i64 0)) := ⟨Hw8.out.1, Hw8.out.2.1⟩
 clear Hw8
 obtain ⟨z0, ⟨c00, c01, c02, c03⟩, _⟩ := KHw8.out.2
 go_wp2_with fail
 refine (cV _ (KHw8.out.1.alloc _)).mono ?_
 rintro e w9 ⟨rfl, E9⟩
 have H9 : Hid (Ext w w9) := (KHw8.out.1.alloc _).trans E9
 clear E9 c00 c01 c02 c03 z0
 go_wp2_with fail
 go_ret
 exact ⟨rfl, H9.out⟩

theorem laidOut : laidOutB Tryz.prog = true := by kernel_rfl
set_option maxRecDepth 100000 in
theorem contract (H : Type) (enc : TypeId × Value → H) (W : World) (base : Nat) (args : Array Value) (ds gs : List (DataW H)) (before : List MemPlace)
   (hval0 : ∀ (j : Nat) t v, Tryz.f6.params[j]? = some t → args[j]? = some v → Value.okWide Tryz.prog W .any base t v)
   (hW : DataW.Whole enc Tryz.prog Tryz.f6.params.toList Rows.funcsWholeSpec.vars false W args.toList ds gs before) (hL : laidMetH Tryz.prog Rows.funcsWholeRow.laid W) :
   Calls Tryz.prog 6 args W fun e W' => ∃ v, e = .returned v ∧ Rows.funcsWholeSpec.post enc Tryz.prog Tryz.f6 false true false false W args v W' := by
 have hval := hval0
 have hW' := hW
 obtain ⟨p, q, hA0, hV, rfl, hfz, hnd⟩ := hW'
 have hA : DataW.TrodAll enc Tryz.prog W 0 (fun _ => true) true Tryz.f6.params.toList args.toList ds p := hA0
 rw [Tryz.params6] at hA hval
 obtain ⟨v0, vs0, d0, ds0, p0, q0, hargs, rfl, rfl, h0, r0⟩ := trodAll_cons hA
 obtain ⟨rfl, rfl, rfl⟩ := trodAll_nil r0
 obtain rfl : args = #[v0] := by cases args; simp_all
 obtain ⟨rfl, rfl⟩ := trodVars_none hV
 obtain ⟨a0, rfl, rfl, rfl, w0⟩ := open_int Tryz.underlying2 (hval 0 2 v0 rfl rfl) h0
 clear hA0 hval0
 refine (walk a0 W w0 (nm_ofU hL) (tab_ofU hL)).mono fun e W' ⟨he, bel⟩ => ?_
 subst he
 exact ⟨_, rfl, _, _, _, [], [], [], hW, trodAll_mk1 (shut_bool Tryz.underlying4 _), (trodAll_cons_mk (shut_int Tryz.underlying2 w0) trodAll_mk0), rfl, Below.frame bel _, fun h => by cases h⟩

theorem laid_met (os : Os) : laidMet Tryz.prog Rows.funcsWholeRow.laid ((laidWorldU os).forCall (fun _ _ => 0) ⟨#[], #[.int .i64 0], []⟩).memory :=
 laidMet_of_run' 8 (by kernel_rfl) (by kernel_rfl)
theorem reads (os : Os) {H : Type} (enc : TypeId × Value → H) : ∃ places, DataW.whole enc Tryz.prog ((laidWorldU os).forCall (fun _ _ => 0) ⟨#[], #[.int .i64 0], []⟩).memory Tryz.f6.params.toList Rows.funcsWholeSpec.vars false (#[.int .i64 0] : Array Value).toList 8 = some ([.lit (.int .i64 0)], [], places) :=
 ⟨[], by kernel_rfl⟩

set_option maxRecDepth 100000 in
theorem lifted (os : Os) (started : os.Started) (H : Type) (enc : TypeId × Value → H) (F : Stop.Interp) :
   ReturnsInHanded {} Tryz.checked os 6 .any ((OpenSpec.ofChange Rows.funcsWholeSpec).preRow enc Tryz.prog Tryz.f6 Rows.funcsWholeRow.domain false Rows.funcsWholeRow.laid) (((OpenSpec.ofChange Rows.funcsWholeSpec).at F).post enc Tryz.prog Tryz.f6 false true false false) := by
 obtain ⟨places, hx⟩ := reads os enc
 refine returnsInHanded_of_row (C := Tryz.checked) (s := OpenSpec.ofChange Rows.funcsWholeSpec) ownK started (by kernel_rfl) Tryz.func6
   (witness_row_at (enc := enc) (C := Tryz.checked) false (laidWorldU os) #[.int .i64 0] rfl (by kernel_rfl) (by kernel_rfl) (by kernel_rfl)
     (OpenSpec.preRow_of_cond 8 hx (by kernel_rfl) (fun k hk => by cases hk) (by kernel_rfl) (by
       rw [MakeChecks.laidMetH_plain _ _ _ (by kernel_rfl)]
       exact laid_met os))) ?_
 intro W base args ds gs before hval hW _ _ _ hL _ _
 exact contract H enc W base args ds gs before hval hW hL

theorem said : Rows.FuncsWholeSaid :=
 OpenClaim.holds_of_cond 6 Tryz.f6 rfl rfl rfl rfl rfl rfl rfl ⟨rfl, rfl, rfl, rfl, rfl⟩ rfl rfl rfl rfl rfl (by kernel_rfl) Tryz.func6 (by kernel_rfl)
   (of_decide_eq_true (by kernel_rfl)) (by unfold Func.isWrapper; first | (rw [if_pos (by decide +kernel)]; kernel_rfl) | (rw [if_neg (by decide +kernel)]; exact ⟨rfl, rfl⟩))
   (fun os started H enc _ F => by rw [OpenClaim.pre_eq_preRow]; exact lifted os started H enc F)

theorem plain (f : FuncId) (fn : Func) (hf : Tryz.pinned.checked.prog.funcNamed Rows.funcsWholeRow.func = some f) (hfn : Tryz.pinned.checked.prog.funcs[f]? = some fn) :
   true = Tryz.pinned.checked.prog.looks [] ∧ ∀ (j : Nat) t, fn.params[j]? = some t → Tryz.pinned.checked.prog.wantsStandIn t = false := by
 obtain rfl : f = 6 := Option.some.inj ((show Tryz.prog.funcNamed Rows.funcsWholeRow.func = some 6 by kernel_rfl).symm.trans hf) |>.symm
 obtain rfl : fn = Tryz.f6 := (Option.some.inj (Tryz.func6.symm.trans hfn)).symm
 refine ⟨by kernel_rfl, fun j t ht => ?_⟩
 rw [Tryz.params6] at ht
 have hm : t ∈ [2] := by simpa using Array.mem_of_getElem? ht
 have hall : ([2].all fun u => !Tryz.prog.wantsStandIn u) = true := by kernel_rfl
 exact (show Tryz.prog.wantsStandIn t = false by simpa using List.all_eq_true.1 hall t hm)

theorem card : Rows.FuncsWholeCardSaid :=
 Claim7.holds_tied_plain_at .later [] _ _ _ _ said (fun _ h => by cases h) (by kernel_rfl) (fun _ h => by cases h) funcsWhole_row_tie rfl ⟨rfl, rfl⟩ (by kernel_rfl) rfl plain (by kernel_rfl)
end Go.Proofs.YtalejeknigbhjaaGreatDoor.funcsWhole
namespace Go.Proofs.YtalejeknigbhjaaGreatDoor
theorem funcsWhole_card : Rows.FuncsWholeCardSaid := funcsWhole.card
end Go.Proofs.YtalejeknigbhjaaGreatDoor
