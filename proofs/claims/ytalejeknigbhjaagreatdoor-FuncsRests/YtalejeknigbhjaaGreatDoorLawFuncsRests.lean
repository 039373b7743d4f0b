/-
 FuncsRests is proved: for every two int32 the call returns true and the arguments read as they did. Its condition: the listed tables (the errors, the powers of ten) lie as the program text lays them (the card ties them).
-/
import Derived.Test.YtalejeknigbhjaaGreatDoorW20
import Derived.Test.YtalejeknigbhjaaGreatDoorW21
import Derived.Test.YtalejeknigbhjaaGreatDoorCards
import Derived.Test.YtalejeknigbhjaaGreatDoorTie
import Derived.ChangeMaps5
import Derived.Lib.SmallJoins
namespace Go.Proofs.YtalejeknigbhjaaGreatDoor.funcsRests
open Go.ChangeShapes Go.WideShapes Go.ChangeAt Go.RowKit
open Go.ChangeMaps (open_string shut_string)
open Go.Joins
set_option maxHeartbeats 1000000

theorem canB_of {x : Int} (h : x ≠ -9223372036854775808) : canB x = true := by unfold canB; simpa using h
theorem fm_ten (a b : Int) : fm (a * 10000) (b * 10000) = fm a b * 10000 := by
 have key : ∀ x y : Int, (x * 10000) % (y * 10000) = x % y * 10000 := fun x y => by
   rw [Int.mul_comm x, Int.mul_comm y, Int.mul_emod_mul_of_pos _ _ (by decide), Int.mul_comm]
 unfold fm
 by_cases h : 0 < b
 · rw [if_pos h, if_pos (by omega)]
   exact key a b
 · rw [if_neg h, if_neg (by omega), show -(a * 10000) = (-a) * 10000 by omega, show -(b * 10000) = (-b) * 10000 by omega, key]
   omega
theorem fm_off (a b : Int) : ∃ q, a - fm a b = b * q := by
 unfold fm
 split
 · exact ⟨a / b, by have := Int.emod_add_mul_ediv a b; omega⟩
 · refine ⟨(-a) / (-b), ?_⟩
   have := Int.emod_add_mul_ediv (-a) (-b)
   rw [Int.neg_mul] at this
   omega
theorem mod_of (a b : Int) (ha : -2147483648 ≤ a ∧ a ≤ 2147483647) (hb : -2147483648 ≤ b ∧ b ≤ 2147483647) : fnV [77, 79, 68] [bgR ⟨2, a * 10000, ⟨#[]⟩, 0⟩, bgR ⟨2, b * 10000, ⟨#[]⟩, 0⟩] = if b = 0 then .err 3 else .num (fm a b * 10000) := by
 have ca : canB (a * 10000) = true := canB_of (by omega)
 have cb : canB (b * 10000) = true := canB_of (by omega)
 have s0 : sg [bgR ⟨2, a * 10000, ⟨#[]⟩, 0⟩, bgR ⟨2, b * 10000, ⟨#[]⟩, 0⟩] 0 = .num (a * 10000) := by show mkNum _ = _; exact mkNum_is ca
 have s1 : sg [bgR ⟨2, a * 10000, ⟨#[]⟩, 0⟩, bgR ⟨2, b * 10000, ⟨#[]⟩, 0⟩] 1 = .num (b * 10000) := by show mkNum _ = _; exact mkNum_is cb
 have hx : xCall [77, 79, 68] [bgR ⟨2, a * 10000, ⟨#[]⟩, 0⟩, bgR ⟨2, b * 10000, ⟨#[]⟩, 0⟩] = if b * 10000 = 0 then .error 3 else (tolR (modB (a * 10000) (b * 10000)) (modV (a * 10000) (b * 10000))).map V.rw := by
   show xMod _ = _
   unfold xMod
   rw [s0, s1]
   rfl
 rw [fnV_ok rfl, hx]
 by_cases h0 : b = 0
 · subst h0; rfl
 · rw [if_neg h0, if_neg (by omega), modB_yes (by rw [ca, cb]; rfl) (by omega), modV_yes (by rw [ca, cb]; rfl) (by omega), fm_ten a b]
   have hf := fm_bd a b h0
   have hc : canB (fm a b * 10000) = true := canB_of (by omega)
   show ansV (.ok (mkNum (fm a b * 10000)).rw) = _
   rw [mkNum_is hc]
   exact (nm_of (.num (fm a b * 10000)) ⟨⟨by omega, by omega⟩, hc⟩).1
set_option maxRecDepth 100000 in
theorem walk (a0 a1 : Int) (w : World) (q0 : (Lit.int .i32 a0).wf = true) (q1 : (Lit.int .i32 a1).wf = true) (hN : Nm w) (hT : Tab w) :
   Calls Tryz.prog 8 #[.int .i32 a0, .int .i32 a1] w fun e w' => e = .returned (.bool true) ∧ Ext w w' := by
 have qE := eq_val
 have qG := gd_val
 have ha : -2147483648 ≤ a0 ∧ a0 ≤ 2147483647 := (by simpa [Lit.wf] using q0 : IntKind.i32.min ≤ a0 ∧ a0 ≤ IntKind.i32.max)
 have hb : -2147483648 ≤ a1 ∧ a1 ≤ 2147483647 := (by simpa [Lit.wf] using q1 : IntKind.i32.min ≤ a1 ∧ a1 ≤ IntKind.i32.max)
 have cV := fun W (e : Ext w W) => lives14_any W (hN.ext e) (hT.ext e)
 have cE : ∀ W, Calls Tryz.prog 18 #[.int .i64 3] W fun r w' => r = .returned (.agg #[.int .i64 4, .int .i64 0, .string ⟨#[]⟩, .int .i64 3]) ∧ Ext W w' := fun W => by
   have := rerr_any 3 W
   rwa [mkErr_is ⟨by decide, by decide⟩] at this
 have cN : ∀ n W, canB n = true → Calls Tryz.prog 17 #[.int .i64 n] W fun r w' => r = .returned (.agg #[.int .i64 2, .int .i64 n, .string ⟨#[]⟩, .int .i64 0]) ∧ Ext W w' := fun n W h => by
   have := rnum_any n W
   rwa [mkNum_is h] at this
 have cM := fun (W : World) (g0 g1 : Nat) B0 B1 E => call_2 ⟨#[77, 79, 68]⟩ ⟨2, a0 * 10000, ⟨#[]⟩, 0⟩ ⟨2, a1 * 10000, ⟨#[]⟩, 0⟩ (by intro r hr; simp at hr; rcases hr with rfl | rfl; exact ⟨by show _ ≤ a0 * 10000; omega, by show a0 * 10000 ≤ _; omega⟩; exact ⟨by show _ ≤ a1 * 10000; omega, by show a1 * 10000 ≤ _; omega⟩) hN hT (W := W) (g0 := g0) (g1 := g1) B0 B1 E
 rw [show (⟨#[77, 79, 68]⟩ : ByteArray).data.toList = [77, 79, 68] from rfl, mod_of a0 a1 ha hb] at cM
 have HC : Hid (canB (a0 * 10000) = true ∧ canB (a1 * 10000) = true) := ⟨canB_of (by omega), canB_of (by omega)⟩
 have k1 : wrap64 (a0 * 10000) = a0 * 10000 := by unfold wrap64; omega
 have k2 : wrap64 (a1 * 10000) = a1 * 10000 := by unfold wrap64; omega
 clear q0 q1
 by_cases h0 : a1 = 0
 · rw [if_pos h0] at cM
   simp only [V.k, V.n, V.s, V.e] at cM
   have e0 : (a1 == 0) = true := by simp [h0]
   clear h0
   go_enter Tryz.func8, Tryz.ntmps8
   go_wp2_with fail
   refine (cN _ _ HC.out.1).mono ?_
   rintro e w1 ⟨rfl, Ew1⟩
   have Hw1 : Hid (Ext w w1) := (Ext.refl _).trans Ew1
   clear Ew1
   go_wp2_with fail
   refine (of_any 2 (a0 * 10000) ⟨#[]⟩ 0 _).mono ?_
   rintro e w2 ⟨g2, rfl, Bw2, Ew2⟩
   have Hw2 : Hid (Ext w w2 ∧ Blk w2 g2 (.int .i64 2) (.int .i64 (a0 * 10000)) (.string ⟨#[]⟩) (.int .i64 0)) := ⟨(Hw1.out).trans Ew2, Bw2⟩
   clear Ew2 Bw2
   go_wp2_with fail
   refine (cN _ _ HC.out.2).mono ?_
   rintro e w3 ⟨rfl, Ew3⟩
   have Hw3 : Hid (Ext w w3 ∧ Blk w3 g2 (.int .i64 2) (.int .i64 (a0 * 10000)) (.string ⟨#[]⟩) (.int .i64 0)) := ⟨(Hw2.out.1).trans Ew3, (Hw2.out.2).ext Ew3⟩
   clear Ew3
   go_wp2_with fail
   refine (of_any 2 (a1 * 10000) ⟨#[]⟩ 0 _).mono ?_
   rintro e w4 ⟨g4, rfl, Bw4, Ew4⟩
   have Hw4 : Hid (Ext w w4 ∧ Blk w4 g2 (.int .i64 2) (.int .i64 (a0 * 10000)) (.string ⟨#[]⟩) (.int .i64 0) ∧ Blk w4 g4 (.int .i64 2) (.int .i64 (a1 * 10000)) (.string ⟨#[]⟩) (.int .i64 0)) := ⟨(Hw3.out.1).trans Ew4, (Hw3.out.2).ext Ew4, Bw4⟩
   clear Ew4 Bw4
   go_wp2_with fail
   refine (cM _ _ _ (Hw4.out.2.1) (Hw4.out.2.2) (Hw4.out.1)).mono ?_
   rintro e w5 ⟨rfl, Ew5⟩
   have Hw5 : Hid (Ext w w5 ∧ Blk w5 g2 (.int .i64 2) (.int .i64 (a0 * 10000)) (.string ⟨#[]⟩) (.int .i64 0) ∧ Blk w5 g4 (.int .i64 2) (.int .i64 (a1 * 10000)) (.string ⟨#[]⟩) (.int .i64 0)) := ⟨(Hw4.out.1).trans Ew5, (Hw4.out.2.1).ext Ew5, (Hw4.out.2.2).ext Ew5⟩
   clear Ew5
   have KHw5 : Hid (Ext w w5) := Hw5.out.1
   clear Hw5
   go_upto_region 3 with fail
   have HW6 : Hid (Ext w (w5.alloc (.cells #[.int .i64 4, .int .i64 0, .string ⟨#[]⟩, .int .i64 3] 25)) ∧ Blk (w5.alloc (.cells #[.int .i64 4, .int .i64 0, .string ⟨#[]⟩, .int .i64 3] 25)) w5.heap.size (.int .i64 4) (.int .i64 0) (.string ⟨#[]⟩) (.int .i64 3)) := ⟨KHw5.out.alloc _, blk_top (by simp) (Ext.refl _)⟩
   generalize (w5.alloc (.cells #[.int .i64 4, .int .i64 0, .string ⟨#[]⟩, .int .i64 3] 25)) = w6 at *
   have mkS : Hid (∀ V, Ext w6 V → V.cell? ⟨w5.heap.size, 0, none⟩ = some (.int .i64 4) ∧ V.cell? ⟨w5.heap.size, 1, none⟩ = some (.int .i64 0) ∧ V.cell? ⟨w5.heap.size, 2, none⟩ = some (.string ⟨#[]⟩) ∧ V.cell? ⟨w5.heap.size, 3, none⟩ = some (.int .i64 3)) := fun V e => (HW6.out.2.ext e).2.1
   refine wp_region_held_drew (S := (fun V => V.cell? ⟨w5.heap.size, 0, none⟩ = some (.int .i64 4) ∧ V.cell? ⟨w5.heap.size, 1, none⟩ = some (.int .i64 0) ∧ V.cell? ⟨w5.heap.size, 2, none⟩ = some (.string ⟨#[]⟩) ∧ V.cell? ⟨w5.heap.size, 3, none⟩ = some (.int .i64 3))) (by kernel_rfl) ?_ (fun hHeld0 => ?_)
   · (refine mkS.out _ ?_; ((with_reducible (repeat (first | assumption | exact Ext.refl _ | apply Ext.alloc | apply Ext.drew | apply Ext.drewN))); done))
   refine wpAnyH_take (i := 0) (oi := ⟨some 21, .load 25 (.tmp 5), 25, "law.go:97", #[], none⟩) (v := ?_) rfl (by kernel_rfl) (by kernel_rfl) (by kernel_rfl) (fun _ _ _ h => h) (Or.inl ⟨by rfl, ?_⟩) (by assumption) ?_
   rotate_left
   · intro w hSw; (try dsimp only at hSw); first | (go_simp; done) | (go_simp; with_reducible rfl)
   try simp only [Act.put, List.setIfInBounds_toArray, List.set_cons_zero, List.set_cons_succ]
   refine wpAnyH_ready (rs := [1]) (by kernel_rfl) (by simp) ?_
   refine AllReadyH.cons (o := ⟨some 22, .call { callee := .value (.func 18), args := #[.const (.int .i64 3)], argTypes := #[3] }, 25, "law.go:97", #[], none⟩) rfl (fun K hK => ?_) AllReadyH.nil
   go_simp
   (go_at_call 18; refine Calls.mono (cE _) ?_; rintro e y1 ⟨rfl, E1⟩; have X1 : Ext w6 y1 := Ext.trans (by with_reducible repeat (first | assumption | exact Ext.refl _ | apply Ext.alloc | apply Ext.drew | apply Ext.drewN)) E1)
   try go_wp2_with fail
   refine hK.out _ _ ?_ (fun hHeld1 => ?_)
   · (try dsimp only); (refine mkS.out _ ?_; ((with_reducible (repeat (first | assumption | exact Ext.refl _ | apply Ext.alloc | apply Ext.drew | apply Ext.drewN))); done))
   clear hK K hHeld0
   try simp only [Act.put, List.setIfInBounds_toArray, List.set_cons_zero, List.set_cons_succ]
   refine wpAnyH_take (i := 2) (oi := ⟨some 23, .binOp .eql 25 (.tmp 21) (.tmp 22) 25, 4, "law.go:97", #[⟨0, .data⟩, ⟨1, .data⟩], none⟩) (v := ?_) rfl (by kernel_rfl) (by kernel_rfl) (by kernel_rfl) (fun _ _ _ h => h) (Or.inl ⟨by rfl, ?_⟩) (by assumption) ?_
   rotate_left
   · intro w hSw; (try dsimp only at hSw); first | (go_simp; done) | (go_simp; with_reducible rfl)
   try simp only [Act.put, List.setIfInBounds_toArray, List.set_cons_zero, List.set_cons_succ]
   refine wpAnyH_take (i := 3) (oi := ⟨some 24, .move (.tmp 23), 4, "law.go:97", #[⟨2, .data⟩, ⟨1, .chain⟩], none⟩) (v := ?_) rfl (by kernel_rfl) (by kernel_rfl) (by kernel_rfl) (fun _ _ _ h => h) (Or.inl ⟨by rfl, ?_⟩) (by assumption) ?_
   rotate_left
   · intro w hSw; (try dsimp only at hSw); first | (go_simp; done) | (go_simp; with_reducible rfl)
   try simp only [Act.put, List.setIfInBounds_toArray, List.set_cons_zero, List.set_cons_succ]
   refine wpAnyH_ready (rs := [4]) (by kernel_rfl) (by simp) ?_
   refine AllReadyH.cons (o := ⟨some 25, .call { callee := .value (.func 9), args := #[], argTypes := #[] }, 4, "law.go:97", #[⟨3, .chain⟩, ⟨3, .guard⟩], some (3, true)⟩) rfl (fun K hK => ?_) AllReadyH.nil
   go_simp
   (go_at_call 9; refine Calls.mono (cV _ (HW6.out.1.trans (by with_reducible repeat (first | assumption | exact Ext.refl _ | apply Ext.alloc | apply Ext.drew | apply Ext.drewN)))) ?_; rintro e y2 ⟨rfl, E2⟩; have X2 : Ext w6 y2 := Ext.trans (by with_reducible repeat (first | assumption | exact Ext.refl _ | apply Ext.alloc | apply Ext.drew | apply Ext.drewN)) E2)
   try go_wp2_with fail
   refine hK.out _ _ ?_ (fun hHeld2 => ?_)
   · (try dsimp only); (refine mkS.out _ ?_; ((with_reducible (repeat (first | assumption | exact Ext.refl _ | apply Ext.alloc | apply Ext.drew | apply Ext.drewN))); done))
   clear hK K hHeld1
   try simp only [Act.put, List.setIfInBounds_toArray, List.set_cons_zero, List.set_cons_succ]
   refine wpAnyH_take (i := 5) (oi := ⟨some 26, .pick (.tmp 24) (.tmp 25) (.const (.bool false)), 4, "law.go:97", #[⟨3, .data⟩, ⟨4, .data⟩], none⟩) (v := ?_) rfl (by kernel_rfl) (by kernel_rfl) (by kernel_rfl) (fun _ _ _ h => h) (Or.inl ⟨by rfl, ?_⟩) (by assumption) ?_
   rotate_left
   · intro w hSw; (try dsimp only at hSw); first | (go_simp; done) | (go_simp; with_reducible rfl)
   try simp only [Act.put, List.setIfInBounds_toArray, List.set_cons_zero, List.set_cons_succ]
   refine wpAnyH_take (i := 6) (oi := ⟨some 4, .assign (.tmp 26), 4, "law.go:97", #[⟨5, .data⟩, ⟨4, .chain⟩, ⟨0, .phase⟩, ⟨1, .phase⟩, ⟨2, .phase⟩, ⟨3, .phase⟩, ⟨4, .phase⟩, ⟨5, .phase⟩], none⟩) (v := ?_) rfl (by kernel_rfl) (by kernel_rfl) (by kernel_rfl) (fun _ _ _ h => h) (Or.inl ⟨by rfl, ?_⟩) (by assumption) ?_
   rotate_left
   · intro w hSw; (try dsimp only at hSw); first | (go_simp; done) | (go_simp; with_reducible rfl)
   try simp only [Act.put, List.setIfInBounds_toArray, List.set_cons_zero, List.set_cons_succ]
   refine wpAnyH_done (by kernel_rfl) ?_ _
   go_wp2_with fail
   go_ret
   exact ⟨rfl, HW6.out.1.trans (by with_reducible repeat (first | assumption | exact Ext.refl _ | apply Ext.alloc | apply Ext.drew | apply Ext.drewN))⟩
 · rw [if_neg h0] at cM
   simp only [V.k, V.n, V.s, V.e] at cM
   have hf := fm_bd a0 a1 h0
   obtain ⟨q, hq⟩ := fm_off a0 a1
   generalize fm a0 a1 = m at *
   have e0 : (a1 == 0) = false := by simp [h0]
   have t1 : (m * 10000).tdiv 10000 = m := Int.mul_tdiv_cancel _ (by decide)
   have t2 : (m * 10000).tmod 10000 = 0 := Int.mul_tmod_left _ _
   have t3 : (a0 - m).tmod a1 = 0 := by rw [hq]; exact Int.mul_tmod_right _ _
   have k3 : wrap64 (a0 - m) = a0 - m := by unfold wrap64; omega
   obtain ⟨ha1, ha2⟩ := ha
   obtain ⟨hb1, hb2⟩ := hb
   clear hq
   by_cases hp : 0 < a1
   · obtain ⟨m1, m2⟩ := hf.1 hp
     have d1 : ¬ a1 < 0 := by omega
     clear hf
     by_cases hm : m = 0
     · have e1 : (m == 0) = true := by simp [hm]
       clear hm
       go_enter Tryz.func8, Tryz.ntmps8
       go_wp2_with fail
       refine (cN _ _ HC.out.1).mono ?_
       rintro e w1 ⟨rfl, Ew1⟩
       have Hw1 : Hid (Ext w w1) := (Ext.refl _).trans Ew1
       clear Ew1
       go_wp2_with fail
       refine (of_any 2 (a0 * 10000) ⟨#[]⟩ 0 _).mono ?_
       rintro e w2 ⟨g2, rfl, Bw2, Ew2⟩
       have Hw2 : Hid (Ext w w2 ∧ Blk w2 g2 (.int .i64 2) (.int .i64 (a0 * 10000)) (.string ⟨#[]⟩) (.int .i64 0)) := ⟨(Hw1.out).trans Ew2, Bw2⟩
       clear Ew2 Bw2
       go_wp2_with fail
       refine (cN _ _ HC.out.2).mono ?_
       rintro e w3 ⟨rfl, Ew3⟩
       have Hw3 : Hid (Ext w w3 ∧ Blk w3 g2 (.int .i64 2) (.int .i64 (a0 * 10000)) (.string ⟨#[]⟩) (.int .i64 0)) := ⟨(Hw2.out.1).trans Ew3, (Hw2.out.2).ext Ew3⟩
       clear Ew3
       go_wp2_with fail
       refine (of_any 2 (a1 * 10000) ⟨#[]⟩ 0 _).mono ?_
       rintro e w4 ⟨g4, rfl, Bw4, Ew4⟩
       have Hw4 : Hid (Ext w w4 ∧ Blk w4 g2 (.int .i64 2) (.int .i64 (a0 * 10000)) (.string ⟨#[]⟩) (.int .i64 0) ∧ Blk w4 g4 (.int .i64 2) (.int .i64 (a1 * 10000)) (.string ⟨#[]⟩) (.int .i64 0)) := ⟨(Hw3.out.1).trans Ew4, (Hw3.out.2).ext Ew4, Bw4⟩
       clear Ew4 Bw4
       go_wp2_with fail
       refine (cM _ _ _ (Hw4.out.2.1) (Hw4.out.2.2) (Hw4.out.1)).mono ?_
       rintro e w5 ⟨rfl, Ew5⟩
       have Hw5 : Hid (Ext w w5 ∧ Blk w5 g2 (.int .i64 2) (.int .i64 (a0 * 10000)) (.string ⟨#[]⟩) (.int .i64 0) ∧ Blk w5 g4 (.int .i64 2) (.int .i64 (a1 * 10000)) (.string ⟨#[]⟩) (.int .i64 0)) := ⟨(Hw4.out.1).trans Ew5, (Hw4.out.2.1).ext Ew5, (Hw4.out.2.2).ext Ew5⟩
       clear Ew5
       have KHw5 : Hid (Ext w w5) := Hw5.out.1
       clear Hw5
       have HW6 : Hid (Ext w (w5.alloc (.cells #[.int .i64 2, .int .i64 (m * 10000), .string ⟨#[]⟩, .int .i64 0] 25))) := KHw5.out.alloc _
       go_wp2_with fail
       refine (cV _ HW6.out).mono ?_
       rintro e w7 ⟨rfl, E7⟩
       have HW7 : Hid (Ext w w7) := HW6.out.trans E7
       clear E7
       go_wp2_with fail
       go_ret
       exact ⟨rfl, HW7.out⟩
     · have e1 : (m == 0) = false := by simp [hm]
       have d2 : ¬ m < 0 := by omega
       clear hm
       go_enter Tryz.func8, Tryz.ntmps8
       go_wp2_with fail
       refine (cN _ _ HC.out.1).mono ?_
       rintro e w1 ⟨rfl, Ew1⟩
       have Hw1 : Hid (Ext w w1) := (Ext.refl _).trans Ew1
       clear Ew1
       go_wp2_with fail
       refine (of_any 2 (a0 * 10000) ⟨#[]⟩ 0 _).mono ?_
       rintro e w2 ⟨g2, rfl, Bw2, Ew2⟩
       have Hw2 : Hid (Ext w w2 ∧ Blk w2 g2 (.int .i64 2) (.int .i64 (a0 * 10000)) (.string ⟨#[]⟩) (.int .i64 0)) := ⟨(Hw1.out).trans Ew2, Bw2⟩
       clear Ew2 Bw2
       go_wp2_with fail
       refine (cN _ _ HC.out.2).mono ?_
       rintro e w3 ⟨rfl, Ew3⟩
       have Hw3 : Hid (Ext w w3 ∧ Blk w3 g2 (.int .i64 2) (.int .i64 (a0 * 10000)) (.string ⟨#[]⟩) (.int .i64 0)) := ⟨(Hw2.out.1).trans Ew3, (Hw2.out.2).ext Ew3⟩
       clear Ew3
       go_wp2_with fail
       refine (of_any 2 (a1 * 10000) ⟨#[]⟩ 0 _).mono ?_
       rintro e w4 ⟨g4, rfl, Bw4, Ew4⟩
       have Hw4 : Hid (Ext w w4 ∧ Blk w4 g2 (.int .i64 2) (.int .i64 (a0 * 10000)) (.string ⟨#[]⟩) (.int .i64 0) ∧ Blk w4 g4 (.int .i64 2) (.int .i64 (a1 * 10000)) (.string ⟨#[]⟩) (.int .i64 0)) := ⟨(Hw3.out.1).trans Ew4, (Hw3.out.2).ext Ew4, Bw4⟩
       clear Ew4 Bw4
       go_wp2_with fail
       refine (cM _ _ _ (Hw4.out.2.1) (Hw4.out.2.2) (Hw4.out.1)).mono ?_
       rintro e w5 ⟨rfl, Ew5⟩
       have Hw5 : Hid (Ext w w5 ∧ Blk w5 g2 (.int .i64 2) (.int .i64 (a0 * 10000)) (.string ⟨#[]⟩) (.int .i64 0) ∧ Blk w5 g4 (.int .i64 2) (.int .i64 (a1 * 10000)) (.string ⟨#[]⟩) (.int .i64 0)) := ⟨(Hw4.out.1).trans Ew5, (Hw4.out.2.1).ext Ew5, (Hw4.out.2.2).ext Ew5⟩
       clear Ew5
       have KHw5 : Hid (Ext w w5) := Hw5.out.1
       clear Hw5
       have HW6 : Hid (Ext w (w5.alloc (.cells #[.int .i64 2, .int .i64 (m * 10000), .string ⟨#[]⟩, .int .i64 0] 25))) := KHw5.out.alloc _
       go_wp2_with fail
       refine (cV _ HW6.out).mono ?_
       rintro e w7 ⟨rfl, E7⟩
       have HW7 : Hid (Ext w w7) := HW6.out.trans E7
       clear E7
       go_wp2_with fail
       go_ret
       exact ⟨rfl, HW7.out⟩
   · have d1 : a1 < 0 := by omega
     obtain ⟨m1, m2⟩ := hf.2 d1
     clear hf
     by_cases hm : m = 0
     · have e1 : (m == 0) = true := by simp [hm]
       clear hm
       go_enter Tryz.func8, Tryz.ntmps8
       go_wp2_with fail
       refine (cN _ _ HC.out.1).mono ?_
       rintro e w1 ⟨rfl, Ew1⟩
       have Hw1 : Hid (Ext w w1) := (Ext.refl _).trans Ew1
       clear Ew1
       go_wp2_with fail
       refine (of_any 2 (a0 * 10000) ⟨#[]⟩ 0 _).mono ?_
       rintro e w2 ⟨g2, rfl, Bw2, Ew2⟩
       have Hw2 : Hid (Ext w w2 ∧ Blk w2 g2 (.int .i64 2) (.int .i64 (a0 * 10000)) (.string ⟨#[]⟩) (.int .i64 0)) := ⟨(Hw1.out).trans Ew2, Bw2⟩
       clear Ew2 Bw2
       go_wp2_with fail
       refine (cN _ _ HC.out.2).mono ?_
       rintro e w3 ⟨rfl, Ew3⟩
       have Hw3 : Hid (Ext w w3 ∧ Blk w3 g2 (.int .i64 2) (.int .i64 (a0 * 10000)) (.string ⟨#[]⟩) (.int .i64 0)) := ⟨(Hw2.out.1).trans Ew3, (Hw2.out.2).ext Ew3⟩
       clear Ew3
       go_wp2_with fail
       refine (of_any 2 (a1 * 10000) ⟨#[]⟩ 0 _).mono ?_
       rintro e w4 ⟨g4, rfl, Bw4, Ew4⟩
       have Hw4 : Hid (Ext w w4 ∧ Blk w4 g2 (.int .i64 2) (.int .i64 (a0 * 10000)) (.string ⟨#[]⟩) (.int .i64 0) ∧ Blk w4 g4 (.int .i64 2) (.int .i64 (a1 * 10000)) (.string ⟨#[]⟩) (.int .i64 0)) := ⟨(Hw3.out.1).trans Ew4, (Hw3.out.2).ext Ew4, Bw4⟩
       clear Ew4 Bw4
       go_wp2_with fail
       refine (cM _ _ _ (Hw4.out.2.1) (Hw4.out.2.2) (Hw4.out.1)).mono ?_
       rintro e w5 ⟨rfl, Ew5⟩
       have Hw5 : Hid (Ext w w5 ∧ Blk w5 g2 (.int .i64 2) (.int .i64 (a0 * 10000)) (.string ⟨#[]⟩) (.int .i64 0) ∧ Blk w5 g4 (.int .i64 2) (.int .i64 (a1 * 10000)) (.string ⟨#[]⟩) (.int .i64 0)) := ⟨(Hw4.out.1).trans Ew5, (Hw4.out.2.1).ext Ew5, (Hw4.out.2.2).ext Ew5⟩
       clear Ew5
       have KHw5 : Hid (Ext w w5) := Hw5.out.1
       clear Hw5
       have HW6 : Hid (Ext w (w5.alloc (.cells #[.int .i64 2, .int .i64 (m * 10000), .string ⟨#[]⟩, .int .i64 0] 25))) := KHw5.out.alloc _
       go_wp2_with fail
       refine (cV _ HW6.out).mono ?_
       rintro e w7 ⟨rfl, E7⟩
       have HW7 : Hid (Ext w w7) := HW6.out.trans E7
       clear E7
       go_wp2_with fail
       go_ret
       exact ⟨rfl, HW7.out⟩
     · have e1 : (m == 0) = false := by simp [hm]
       have d2 : m < 0 := by omega
       clear hm
       go_enter Tryz.func8, Tryz.ntmps8
       go_wp2_with fail
       refine (cN _ _ HC.out.1).mono ?_
       rintro e w1 ⟨rfl, Ew1⟩
       have Hw1 : Hid (Ext w w1) := (Ext.refl _).trans Ew1
       clear Ew1
       go_wp2_with fail
       refine (of_any 2 (a0 * 10000) ⟨#[]⟩ 0 _).mono ?_
       rintro e w2 ⟨g2, rfl, Bw2, Ew2⟩
       have Hw2 : Hid (Ext w w2 ∧ Blk w2 g2 (.int .i64 2) (.int .i64 (a0 * 10000)) (.string ⟨#[]⟩) (.int .i64 0)) := ⟨(Hw1.out).trans Ew2, Bw2⟩
       clear Ew2 Bw2
       go_wp2_with fail
       refine (cN _ _ HC.out.2).mono ?_
       rintro e w3 ⟨rfl, Ew3⟩
       have Hw3 : Hid (Ext w w3 ∧ Blk w3 g2 (.int .i64 2) (.int .i64 (a0 * 10000)) (.string ⟨#[]⟩) (.int .i64 0)) := ⟨(Hw2.out.1).trans Ew3, (Hw2.out.2).ext Ew3⟩
       clear Ew3
       go_wp2_with fail
       refine (of_any 2 (a1 * 10000) ⟨#[]⟩ 0 _).mono ?_
       rintro e w4 ⟨g4, rfl, Bw4, Ew4⟩
       have Hw4 : Hid (Ext w w4 ∧ Blk w4 g2 (.int .i64 2) (.int .i64 (a0 * 10000)) (.string ⟨#[]⟩) (.int .i64 0) ∧ Blk w4 g4 (.int .i64 2) (.int .i64 (a1 * 10000)) (.string ⟨#[]⟩) (.int .i64 0)) := ⟨(Hw3.out.1).trans Ew4, (Hw3.out.2).ext Ew4, Bw4⟩
       clear Ew4 Bw4
       go_wp2_with fail
       refine (cM _ _ _ (Hw4.out.2.1) (Hw4.out.2.2) (Hw4.out.1)).mono ?_
       rintro e w5 ⟨rfl, Ew5⟩
       have Hw5 : Hid (Ext w w5 ∧ Blk w5 g2 (.int .i64 2) (.int .i64 (a0 * 10000)) (.string ⟨#[]⟩) (.int .i64 0) ∧ Blk w5 g4 (.int .i64 2) (.int .i64 (a1 * 10000)) (.string ⟨#[]⟩) (.int .i64 0)) := ⟨(Hw4.out.1).trans Ew5, (Hw4.out.2.1).ext Ew5, (Hw4.out.2.2).ext Ew5⟩
       clear Ew5
       have KHw5 : Hid (Ext w w5) := Hw5.out.1
       clear Hw5
       have HW6 : Hid (Ext w (w5.alloc (.cells #[.int .i64 2, .int .i64 (m * 10000), .string ⟨#[]⟩, .int .i64 0] 25))) := KHw5.out.alloc _
       go_wp2_with fail
       refine (cV _ HW6.out).mono ?_
       rintro e w7 ⟨rfl, E7⟩
       have HW7 : Hid (Ext w w7) := HW6.out.trans E7
       clear E7
       go_wp2_with fail
       go_ret
       exact ⟨rfl, HW7.out⟩

theorem laidOut : laidOutB Tryz.prog = true := by kernel_rfl
set_option maxRecDepth 100000 in
theorem contract (H : Type) (enc : TypeId × Value → H) (W : World) (base : Nat) (args : Array Value) (ds gs : List (DataW H)) (before : List MemPlace)
   (hval0 : ∀ (j : Nat) t v, Tryz.f8.params[j]? = some t → args[j]? = some v → Value.okWide Tryz.prog W .any base t v)
   (hW : DataW.Whole enc Tryz.prog Tryz.f8.params.toList Rows.funcsRestsSpec.vars false W args.toList ds gs before) (hL : laidMetH Tryz.prog Rows.funcsRestsRow.laid W) :
   Calls Tryz.prog 8 args W fun e W' => ∃ v, e = .returned v ∧ Rows.funcsRestsSpec.post enc Tryz.prog Tryz.f8 false true false false W args v W' := by
 have hval := hval0
 have hW' := hW
 obtain ⟨p, q, hA0, hV, rfl, hfz, hnd⟩ := hW'
 have hA : DataW.TrodAll enc Tryz.prog W 0 (fun _ => true) true Tryz.f8.params.toList args.toList ds p := hA0
 rw [Tryz.params8] at hA hval
 obtain ⟨v0, vs0, d0, ds0, p0, q0, hargs, rfl, rfl, h0, r0⟩ := trodAll_cons hA
 obtain ⟨v1, vs1, d1, ds1, p1, q1, rfl, rfl, rfl, h1, r1⟩ := trodAll_cons r0
 obtain ⟨rfl, rfl, rfl⟩ := trodAll_nil r1
 obtain rfl : args = #[v0, v1] := by cases args; simp_all
 obtain ⟨rfl, rfl⟩ := trodVars_none hV
 obtain ⟨a0, rfl, rfl, rfl, w0⟩ := open_int Tryz.underlying21 (hval 0 21 v0 rfl rfl) h0
 obtain ⟨a1, rfl, rfl, rfl, w1⟩ := open_int Tryz.underlying21 (hval 1 21 v1 rfl rfl) h1
 clear hA0 hval0
 refine (walk a0 a1 W w0 w1 (nm_ofU hL) (tab_ofU hL)).mono fun e W' ⟨he, bel⟩ => ?_
 subst he
 exact ⟨_, rfl, _, _, _, [], [], [], hW, trodAll_mk1 (shut_bool Tryz.underlying4 _), (trodAll_cons_mk (shut_int Tryz.underlying21 w0) (trodAll_cons_mk (shut_int Tryz.underlying21 w1) trodAll_mk0)), rfl, Below.frame bel _, fun h => by cases h⟩

theorem laid_met (os : Os) : laidMet Tryz.prog Rows.funcsRestsRow.laid ((laidWorldU os).forCall (fun _ _ => 0) ⟨#[], #[.int .i32 0, .int .i32 0], []⟩).memory :=
 laidMet_of_run' 8 (by kernel_rfl) (by kernel_rfl)
theorem reads (os : Os) {H : Type} (enc : TypeId × Value → H) : ∃ places, DataW.whole enc Tryz.prog ((laidWorldU os).forCall (fun _ _ => 0) ⟨#[], #[.int .i32 0, .int .i32 0], []⟩).memory Tryz.f8.params.toList Rows.funcsRestsSpec.vars false (#[.int .i32 0, .int .i32 0] : Array Value).toList 8 = some ([.lit (.int .i32 0), .lit (.int .i32 0)], [], places) :=
 ⟨[], by kernel_rfl⟩

set_option maxRecDepth 100000 in
theorem lifted (os : Os) (started : os.Started) (H : Type) (enc : TypeId × Value → H) (F : Stop.Interp) :
   ReturnsInHanded {} Tryz.checked os 8 .any ((OpenSpec.ofChange Rows.funcsRestsSpec).preRow enc Tryz.prog Tryz.f8 Rows.funcsRestsRow.domain false Rows.funcsRestsRow.laid) (((OpenSpec.ofChange Rows.funcsRestsSpec).at F).post enc Tryz.prog Tryz.f8 false true false false) := by
 obtain ⟨places, hx⟩ := reads os enc
 refine returnsInHanded_of_row (C := Tryz.checked) (s := OpenSpec.ofChange Rows.funcsRestsSpec) ownK started (by kernel_rfl) Tryz.func8
   (witness_row_at (enc := enc) (C := Tryz.checked) false (laidWorldU os) #[.int .i32 0, .int .i32 0] rfl (by kernel_rfl) (by kernel_rfl) (by kernel_rfl)
     (OpenSpec.preRow_of_cond 8 hx (by kernel_rfl) (fun k hk => by cases hk) (by kernel_rfl) (by
       rw [MakeChecks.laidMetH_plain _ _ _ (by kernel_rfl)]
       exact laid_met os))) ?_
 intro W base args ds gs before hval hW _ _ _ hL _ _
 exact contract H enc W base args ds gs before hval hW hL

theorem said : Rows.FuncsRestsSaid :=
 OpenClaim.holds_of_cond 8 Tryz.f8 rfl rfl rfl rfl rfl rfl rfl ⟨rfl, rfl, rfl, rfl, rfl⟩ rfl rfl rfl rfl rfl (by kernel_rfl) Tryz.func8 (by kernel_rfl)
   (of_decide_eq_true (by kernel_rfl)) (by unfold Func.isWrapper; first | (rw [if_pos (by decide +kernel)]; kernel_rfl) | (rw [if_neg (by decide +kernel)]; exact ⟨rfl, rfl⟩))
   (fun os started H enc _ F => by rw [OpenClaim.pre_eq_preRow]; exact lifted os started H enc F)

theorem plain (f : FuncId) (fn : Func) (hf : Tryz.pinned.checked.prog.funcNamed Rows.funcsRestsRow.func = some f) (hfn : Tryz.pinned.checked.prog.funcs[f]? = some fn) :
   true = Tryz.pinned.checked.prog.looks [] ∧ ∀ (j : Nat) t, fn.params[j]? = some t → Tryz.pinned.checked.prog.wantsStandIn t = false := by
 obtain rfl : f = 8 := Option.some.inj ((show Tryz.prog.funcNamed Rows.funcsRestsRow.func = some 8 by kernel_rfl).symm.trans hf) |>.symm
 obtain rfl : fn = Tryz.f8 := (Option.some.inj (Tryz.func8.symm.trans hfn)).symm
 refine ⟨by kernel_rfl, fun j t ht => ?_⟩
 rw [Tryz.params8] at ht
 have hm : t ∈ [21, 21] := by simpa using Array.mem_of_getElem? ht
 have hall : ([21, 21].all fun u => !Tryz.prog.wantsStandIn u) = true := by kernel_rfl
 exact (show Tryz.prog.wantsStandIn t = false by simpa using List.all_eq_true.1 hall t hm)

theorem card : Rows.FuncsRestsCardSaid :=
 Claim7.holds_tied_plain_at .later [] _ _ _ _ said (fun _ h => by cases h) (by kernel_rfl) (fun _ h => by cases h) funcsRests_row_tie rfl ⟨rfl, rfl⟩ (by kernel_rfl) rfl plain (by kernel_rfl)
end Go.Proofs.YtalejeknigbhjaaGreatDoor.funcsRests
namespace Go.Proofs.YtalejeknigbhjaaGreatDoor
theorem funcsRests_card : Rows.FuncsRestsCardSaid := funcsRests.card
end Go.Proofs.YtalejeknigbhjaaGreatDoor
