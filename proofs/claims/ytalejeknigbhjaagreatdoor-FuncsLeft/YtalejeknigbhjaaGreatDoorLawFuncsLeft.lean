/-
 FuncsLeft is proved: for every text and every int16 the call returns true and the arguments read as they did. Its condition: the listed tables (the errors, the powers of ten) lie as the program text lays them (the card ties them).
-/
import Derived.Test.YtalejeknigbhjaaGreatDoorW20
import Derived.Test.YtalejeknigbhjaaGreatDoorW21
import Derived.Test.YtalejeknigbhjaaGreatDoorCards
import Derived.Test.YtalejeknigbhjaaGreatDoorTie
import Derived.ChangeMaps5
import Derived.Lib.SmallJoins
namespace Go.Proofs.YtalejeknigbhjaaGreatDoor.funcsLeft
open Go.ChangeShapes Go.WideShapes Go.ChangeAt Go.RowKit
open Go.ChangeMaps (open_string shut_string)
open Go.Joins
set_option maxHeartbeats 1000000

theorem canB_of {x : Int} (h : x ≠ -9223372036854775808) : canB x = true := by unfold canB; simpa using h
theorem left_of (s : ByteArray) (n : Int) (hs : s.size ≤ 300) (hn : -32768 ≤ n ∧ n ≤ 32767) : fnV [76, 69, 70, 84] [bgR ⟨3, 0, s, 0⟩, bgR ⟨2, n * 10000, ⟨#[]⟩, 0⟩] = if n < 0 then .err 2 else .text (begB s n) := by
 have cn : canB (n * 10000) = true := canB_of (by omega)
 have s0 : sg [bgR ⟨3, 0, s, 0⟩, bgR ⟨2, n * 10000, ⟨#[]⟩, 0⟩] 0 = .text s := by show mkText _ = _; exact mkText_is hs
 have s1 : whO [bgR ⟨3, 0, s, 0⟩, bgR ⟨2, n * 10000, ⟨#[]⟩, 0⟩] 1 = .ok n := by
   show whR (mkNum (n * 10000)) = _
   rw [mkNum_is cn]
   show Except.ok (n * 10000 / 10000) = _
   rw [Int.mul_ediv_cancel _ (by decide)]
 have hx : xCall [76, 69, 70, 84] [bgR ⟨3, 0, s, 0⟩, bgR ⟨2, n * 10000, ⟨#[]⟩, 0⟩] = if n < 0 then .error 2 else .ok (mkText (begB s n)).rw := by
   show xLeft _ = _
   unfold xLeft
   rw [s0, s1]
   rfl
 rw [fnV_ok rfl, hx]
 by_cases h0 : n < 0
 · rw [if_pos h0, if_pos h0]; rfl
 · rw [if_neg h0, if_neg h0]
   have hl : (begB s n).size ≤ 300 := by
     unfold begB
     rw [ByteArray.size_extract]
     omega
   rw [mkText_is hl]
   exact (nm_of (.text (begB s n)) hl).1
theorem len_of (s : ByteArray) (hs : s.size ≤ 300) : fnV [76, 69, 78] [bgR ⟨3, 0, s, 0⟩] = .num ((s.size : Int) * 10000) := by
 have s0 : sg [bgR ⟨3, 0, s, 0⟩] 0 = .text s := by show mkText _ = _; exact mkText_is hs
 have hc : canB ((s.size : Int) * 10000) = true := canB_of (by omega)
 have hx : xCall [76, 69, 78] [bgR ⟨3, 0, s, 0⟩] = .ok (mkNum ((s.size : Int) * 10000)).rw := by
   show xLen _ = _
   unfold xLen
   rw [s0]
   rfl
 rw [fnV_ok rfl, hx, mkNum_is hc]
 exact (nm_of (.num ((s.size : Int) * 10000)) ⟨⟨by omega, by omega⟩, hc⟩).1
set_option maxRecDepth 100000 in
theorem walk (a0 : ByteArray) (a1 : Int) (w : World) (_ : a0.size ≤ maxLen) (q1 : (Lit.int .i16 a1).wf = true) (hN : Nm w) (hT : Tab w) :
   Calls Tryz.prog 5 #[.string a0, .int .i16 a1] w fun e w' => e = .returned (.bool true) ∧ Ext w w' := by
 have qE := eq_val
 have qG := gd_val
 have hb : -32768 ≤ a1 ∧ a1 ≤ 32767 := (by simpa [Lit.wf] using q1 : IntKind.i16.min ≤ a1 ∧ a1 ≤ IntKind.i16.max)
 have cV := fun W (e : Ext w W) => lives14_any W (hN.ext e) (hT.ext e)
 clear q1
 by_cases hs : a0.size > 300
 · have hsI : (a0.size : Int) > 300 := by omega
   go_enter Tryz.func5, Tryz.ntmps5
   go_wp2_with fail
   refine (cV _ (Ext.refl _)).mono ?_
   rintro e w1 ⟨rfl, E1⟩
   go_wp2_with fail
   go_ret
   exact ⟨rfl, E1⟩
 have hsI : ¬ (a0.size : Int) > 300 := by omega
 have HS : Hid (a0.size ≤ 300) := by show _ ≤ _; omega
 have cE : ∀ W, Calls Tryz.prog 18 #[.int .i64 2] W fun r w' => r = .returned (.agg #[.int .i64 4, .int .i64 0, .string ⟨#[]⟩, .int .i64 2]) ∧ Ext W w' := fun W => by
   have := rerr_any 2 W
   rwa [mkErr_is ⟨by decide, by decide⟩] at this
 have cN : ∀ n W, canB n = true → Calls Tryz.prog 17 #[.int .i64 n] W fun r w' => r = .returned (.agg #[.int .i64 2, .int .i64 n, .string ⟨#[]⟩, .int .i64 0]) ∧ Ext W w' := fun n W h => by
   have := rnum_any n W
   rwa [mkNum_is h] at this
 have cT : ∀ s W, s.size ≤ 300 → Calls Tryz.prog 16 #[.string s] W fun r w' => r = .returned (.agg #[.int .i64 3, .int .i64 0, .string s, .int .i64 0]) ∧ Ext W w' := fun s W h => by
   have := rtext_any s W
   rwa [mkText_is h] at this
 have cL := fun (W : World) (g0 g1 : Nat) B0 B1 E => call_2 ⟨#[76, 69, 70, 84]⟩ ⟨3, 0, a0, 0⟩ ⟨2, a1 * 10000, ⟨#[]⟩, 0⟩ (by intro r hr; simp at hr; rcases hr with rfl | rfl; exact I64.z; exact ⟨by show _ ≤ a1 * 10000; omega, by show a1 * 10000 ≤ _; omega⟩) hN hT (W := W) (g0 := g0) (g1 := g1) B0 B1 E
 rw [show (⟨#[76, 69, 70, 84]⟩ : ByteArray).data.toList = [76, 69, 70, 84] from rfl, left_of a0 a1 HS.out hb] at cL
 have HC : Hid (canB (a1 * 10000) = true) := canB_of (by omega)
 have k2 : wrap64 (a1 * 10000) = a1 * 10000 := by unfold wrap64; omega
 obtain ⟨hb1, hb2⟩ := hb
 clear hs
 by_cases h0 : a1 < 0
 · rw [if_pos h0] at cL
   simp only [V.k, V.n, V.s, V.e] at cL
   go_enter Tryz.func5, Tryz.ntmps5
   go_wp2_with fail
   refine (cT _ _ HS.out).mono ?_
   rintro e w1 ⟨rfl, Ew1⟩
   have Hw1 : Hid (Ext w w1) := (Ext.refl _).trans Ew1
   clear Ew1
   go_wp2_with fail
   refine (of_any 3 0 a0 0 _).mono ?_
   rintro e w2 ⟨g2, rfl, Bw2, Ew2⟩
   have Hw2 : Hid (Ext w w2 ∧ Blk w2 g2 (.int .i64 3) (.int .i64 0) (.string a0) (.int .i64 0)) := ⟨(Hw1.out).trans Ew2, Bw2⟩
   clear Ew2 Bw2
   go_wp2_with fail
   refine (cN _ _ HC.out).mono ?_
   rintro e w3 ⟨rfl, Ew3⟩
   have Hw3 : Hid (Ext w w3 ∧ Blk w3 g2 (.int .i64 3) (.int .i64 0) (.string a0) (.int .i64 0)) := ⟨(Hw2.out.1).trans Ew3, (Hw2.out.2).ext Ew3⟩
   clear Ew3
   go_wp2_with fail
   refine (of_any 2 (a1 * 10000) ⟨#[]⟩ 0 _).mono ?_
   rintro e w4 ⟨g4, rfl, Bw4, Ew4⟩
   have Hw4 : Hid (Ext w w4 ∧ Blk w4 g2 (.int .i64 3) (.int .i64 0) (.string a0) (.int .i64 0) ∧ Blk w4 g4 (.int .i64 2) (.int .i64 (a1 * 10000)) (.string ⟨#[]⟩) (.int .i64 0)) := ⟨(Hw3.out.1).trans Ew4, (Hw3.out.2).ext Ew4, Bw4⟩
   clear Ew4 Bw4
   go_wp2_with fail
   refine (cL _ _ _ (Hw4.out.2.1) (Hw4.out.2.2) (Hw4.out.1)).mono ?_
   rintro e w5 ⟨rfl, Ew5⟩
   have Hw5 : Hid (Ext w w5 ∧ Blk w5 g2 (.int .i64 3) (.int .i64 0) (.string a0) (.int .i64 0) ∧ Blk w5 g4 (.int .i64 2) (.int .i64 (a1 * 10000)) (.string ⟨#[]⟩) (.int .i64 0)) := ⟨(Hw4.out.1).trans Ew5, (Hw4.out.2.1).ext Ew5, (Hw4.out.2.2).ext Ew5⟩
   clear Ew5
   have KHw5 : Hid (Ext w w5) := Hw5.out.1
   clear Hw5
   go_upto_region 5 with fail
   have HW6 : Hid (Ext w (w5.alloc (.cells #[.int .i64 4, .int .i64 0, .string ⟨#[]⟩, .int .i64 2] 25)) ∧ Blk (w5.alloc (.cells #[.int .i64 4, .int .i64 0, .string ⟨#[]⟩, .int .i64 2] 25)) w5.heap.size (.int .i64 4) (.int .i64 0) (.string ⟨#[]⟩) (.int .i64 2)) := ⟨KHw5.out.alloc _, blk_top (by simp) (Ext.refl _)⟩
   generalize (w5.alloc (.cells #[.int .i64 4, .int .i64 0, .string ⟨#[]⟩, .int .i64 2] 25)) = w6 at *
   have mkS : Hid (∀ V, Ext w6 V → V.cell? ⟨w5.heap.size, 0, none⟩ = some (.int .i64 4) ∧ V.cell? ⟨w5.heap.size, 1, none⟩ = some (.int .i64 0) ∧ V.cell? ⟨w5.heap.size, 2, none⟩ = some (.string ⟨#[]⟩) ∧ V.cell? ⟨w5.heap.size, 3, none⟩ = some (.int .i64 2)) := fun V e => (HW6.out.2.ext e).2.1
   refine wp_region_held_drew (S := (fun V => V.cell? ⟨w5.heap.size, 0, none⟩ = some (.int .i64 4) ∧ V.cell? ⟨w5.heap.size, 1, none⟩ = some (.int .i64 0) ∧ V.cell? ⟨w5.heap.size, 2, none⟩ = some (.string ⟨#[]⟩) ∧ V.cell? ⟨w5.heap.size, 3, none⟩ = some (.int .i64 2))) (by kernel_rfl) ?_ (fun hHeld0 => ?_)
   · (refine mkS.out _ ?_; ((with_reducible (repeat (first | assumption | exact Ext.refl _ | apply Ext.alloc | apply Ext.drew | apply Ext.drewN))); done))
   refine wpAnyH_take (i := 0) (oi := ⟨some 23, .load 25 (.tmp 5), 25, "law.go:56", #[], none⟩) (v := ?_) rfl (by kernel_rfl) (by kernel_rfl) (by kernel_rfl) (fun _ _ _ h => h) (Or.inl ⟨by rfl, ?_⟩) (by assumption) ?_
   rotate_left
   · intro w hSw; (try dsimp only at hSw); first | (go_simp; done) | (go_simp; with_reducible rfl)
   try simp only [Act.put, List.setIfInBounds_toArray, List.set_cons_zero, List.set_cons_succ]
   refine wpAnyH_ready (rs := [1]) (by kernel_rfl) (by simp) ?_
   refine AllReadyH.cons (o := ⟨some 24, .call { callee := .value (.func 18), args := #[.const (.int .i64 2)], argTypes := #[3] }, 25, "law.go:56", #[], none⟩) rfl (fun K hK => ?_) AllReadyH.nil
   go_simp
   (go_at_call 18; refine Calls.mono (cE _) ?_; rintro e y1 ⟨rfl, E1⟩; have X1 : Ext w6 y1 := Ext.trans (by with_reducible repeat (first | assumption | exact Ext.refl _ | apply Ext.alloc | apply Ext.drew | apply Ext.drewN)) E1)
   try go_wp2_with fail
   refine hK.out _ _ ?_ (fun hHeld1 => ?_)
   · (try dsimp only); (refine mkS.out _ ?_; ((with_reducible (repeat (first | assumption | exact Ext.refl _ | apply Ext.alloc | apply Ext.drew | apply Ext.drewN))); done))
   clear hK K hHeld0
   try simp only [Act.put, List.setIfInBounds_toArray, List.set_cons_zero, List.set_cons_succ]
   refine wpAnyH_take (i := 2) (oi := ⟨some 25, .binOp .eql 25 (.tmp 23) (.tmp 24) 25, 4, "law.go:56", #[⟨0, .data⟩, ⟨1, .data⟩], none⟩) (v := ?_) rfl (by kernel_rfl) (by kernel_rfl) (by kernel_rfl) (fun _ _ _ h => h) (Or.inl ⟨by rfl, ?_⟩) (by assumption) ?_
   rotate_left
   · intro w hSw; (try dsimp only at hSw); first | (go_simp; done) | (go_simp; with_reducible rfl)
   try simp only [Act.put, List.setIfInBounds_toArray, List.set_cons_zero, List.set_cons_succ]
   refine wpAnyH_take (i := 3) (oi := ⟨some 26, .move (.tmp 25), 4, "law.go:56", #[⟨2, .data⟩, ⟨1, .chain⟩], none⟩) (v := ?_) rfl (by kernel_rfl) (by kernel_rfl) (by kernel_rfl) (fun _ _ _ h => h) (Or.inl ⟨by rfl, ?_⟩) (by assumption) ?_
   rotate_left
   · intro w hSw; (try dsimp only at hSw); first | (go_simp; done) | (go_simp; with_reducible rfl)
   try simp only [Act.put, List.setIfInBounds_toArray, List.set_cons_zero, List.set_cons_succ]
   refine wpAnyH_ready (rs := [4]) (by kernel_rfl) (by simp) ?_
   refine AllReadyH.cons (o := ⟨some 27, .call { callee := .value (.func 9), args := #[], argTypes := #[] }, 4, "law.go:56", #[⟨3, .chain⟩, ⟨3, .guard⟩], some (3, true)⟩) rfl (fun K hK => ?_) AllReadyH.nil
   go_simp
   (go_at_call 9; refine Calls.mono (cV _ (HW6.out.1.trans (by with_reducible repeat (first | assumption | exact Ext.refl _ | apply Ext.alloc | apply Ext.drew | apply Ext.drewN)))) ?_; rintro e y2 ⟨rfl, E2⟩; have X2 : Ext w6 y2 := Ext.trans (by with_reducible repeat (first | assumption | exact Ext.refl _ | apply Ext.alloc | apply Ext.drew | apply Ext.drewN)) E2)
   try go_wp2_with fail
   refine hK.out _ _ ?_ (fun hHeld2 => ?_)
   · (try dsimp only); (refine mkS.out _ ?_; ((with_reducible (repeat (first | assumption | exact Ext.refl _ | apply Ext.alloc | apply Ext.drew | apply Ext.drewN))); done))
   clear hK K hHeld1
   try simp only [Act.put, List.setIfInBounds_toArray, List.set_cons_zero, List.set_cons_succ]
   refine wpAnyH_take (i := 5) (oi := ⟨some 28, .pick (.tmp 26) (.tmp 27) (.const (.bool false)), 4, "law.go:56", #[⟨3, .data⟩, ⟨4, .data⟩], none⟩) (v := ?_) rfl (by kernel_rfl) (by kernel_rfl) (by kernel_rfl) (fun _ _ _ h => h) (Or.inl ⟨by rfl, ?_⟩) (by assumption) ?_
   rotate_left
   · intro w hSw; (try dsimp only at hSw); first | (go_simp; done) | (go_simp; with_reducible rfl)
   try simp only [Act.put, List.setIfInBounds_toArray, List.set_cons_zero, List.set_cons_succ]
   refine wpAnyH_take (i := 6) (oi := ⟨some 4, .assign (.tmp 28), 4, "law.go:56", #[⟨5, .data⟩, ⟨4, .chain⟩, ⟨0, .phase⟩, ⟨1, .phase⟩, ⟨2, .phase⟩, ⟨3, .phase⟩, ⟨4, .phase⟩, ⟨5, .phase⟩], none⟩) (v := ?_) rfl (by kernel_rfl) (by kernel_rfl) (by kernel_rfl) (fun _ _ _ h => h) (Or.inl ⟨by rfl, ?_⟩) (by assumption) ?_
   rotate_left
   · intro w hSw; (try dsimp only at hSw); first | (go_simp; done) | (go_simp; with_reducible rfl)
   try simp only [Act.put, List.setIfInBounds_toArray, List.set_cons_zero, List.set_cons_succ]
   refine wpAnyH_done (by kernel_rfl) ?_ _
   go_wp2_with fail
   go_ret
   exact ⟨rfl, HW6.out.1.trans (by with_reducible repeat (first | assumption | exact Ext.refl _ | apply Ext.alloc | apply Ext.drew | apply Ext.drewN))⟩
 · rw [if_neg h0] at cL
   simp only [V.k, V.n, V.s, V.e] at cL
   have cK0 := fun (t : ByteArray) (W : World) (g0 : Nat) B0 E => call_1 ⟨#[76, 69, 78]⟩ ⟨3, 0, t, 0⟩ (by intro r hr; simp at hr; subst hr; exact I64.z) hN hT (W := W) (g0 := g0) B0 E
   by_cases h1 : a1 > (a0.size : Int)
   · have hB : begB a0 a1 = a0 := by unfold begB; rw [show min a1 (a0.size : Int) = (a0.size : Int) by omega]; show a0.extract 0 a0.size = a0; simp
     have cK := cK0 a0
     rw [show (⟨#[76, 69, 78]⟩ : ByteArray).data.toList = [76, 69, 78] from rfl, len_of _ HS.out] at cK
     simp only [V.k, V.n, V.s, V.e] at cK
     have HL : Hid (a0.size ≤ 300 ∧ canB ((a0.size : Int) * 10000) = true) := ⟨HS.out, canB_of (by have := HS.out; omega)⟩
     have k3 : IntKind.i64.wrap ((a0.size : Int) * 10000) = (a0.size : Int) * 10000 := wrap_small _ (by omega) (by have := HS.out; omega)
     rw [hB] at cL
     clear hB cK0
     go_enter Tryz.func5, Tryz.ntmps5
     go_wp2_with fail
     refine (cT _ _ HS.out).mono ?_
     rintro e w1 ⟨rfl, Ew1⟩
     have Hw1 : Hid (Ext w w1) := (Ext.refl _).trans Ew1
     clear Ew1
     go_wp2_with fail
     refine (of_any 3 0 a0 0 _).mono ?_
     rintro e w2 ⟨g2, rfl, Bw2, Ew2⟩
     have Hw2 : Hid (Ext w w2 ∧ Blk w2 g2 (.int .i64 3) (.int .i64 0) (.string a0) (.int .i64 0)) := ⟨(Hw1.out).trans Ew2, Bw2⟩
     clear Ew2 Bw2
     go_wp2_with fail
     refine (cN _ _ HC.out).mono ?_
     rintro e w3 ⟨rfl, Ew3⟩
     have Hw3 : Hid (Ext w w3 ∧ Blk w3 g2 (.int .i64 3) (.int .i64 0) (.string a0) (.int .i64 0)) := ⟨(Hw2.out.1).trans Ew3, (Hw2.out.2).ext Ew3⟩
     clear Ew3
     go_wp2_with fail
     refine (of_any 2 (a1 * 10000) ⟨#[]⟩ 0 _).mono ?_
     rintro e w4 ⟨g4, rfl, Bw4, Ew4⟩
     have Hw4 : Hid (Ext w w4 ∧ Blk w4 g2 (.int .i64 3) (.int .i64 0) (.string a0) (.int .i64 0) ∧ Blk w4 g4 (.int .i64 2) (.int .i64 (a1 * 10000)) (.string ⟨#[]⟩) (.int .i64 0)) := ⟨(Hw3.out.1).trans Ew4, (Hw3.out.2).ext Ew4, Bw4⟩
     clear Ew4 Bw4
     go_wp2_with fail
     refine (cL _ _ _ (Hw4.out.2.1) (Hw4.out.2.2) (Hw4.out.1)).mono ?_
     rintro e w5 ⟨rfl, Ew5⟩
     have Hw5 : Hid (Ext w w5 ∧ Blk w5 g2 (.int .i64 3) (.int .i64 0) (.string a0) (.int .i64 0) ∧ Blk w5 g4 (.int .i64 2) (.int .i64 (a1 * 10000)) (.string ⟨#[]⟩) (.int .i64 0)) := ⟨(Hw4.out.1).trans Ew5, (Hw4.out.2.1).ext Ew5, (Hw4.out.2.2).ext Ew5⟩
     clear Ew5
     have KHw5 : Hid (Ext w w5) := Hw5.out.1
     clear Hw5
     go_upto_region 9 with fail
     have HW6 : Hid (Ext w (w5.alloc (.cells #[.int .i64 3, .int .i64 0, .string a0, .int .i64 0] 25)) ∧ Blk (w5.alloc (.cells #[.int .i64 3, .int .i64 0, .string a0, .int .i64 0] 25)) w5.heap.size (.int .i64 3) (.int .i64 0) (.string a0) (.int .i64 0)) := ⟨KHw5.out.alloc _, blk_top (by simp) (Ext.refl _)⟩
     generalize (w5.alloc (.cells #[.int .i64 3, .int .i64 0, .string a0, .int .i64 0] 25)) = w6 at *
     have mkS : Hid (∀ V, Ext w6 V → V.cell? ⟨w5.heap.size, 0, none⟩ = some (.int .i64 3) ∧ V.cell? ⟨w5.heap.size, 1, none⟩ = some (.int .i64 0) ∧ V.cell? ⟨w5.heap.size, 2, none⟩ = some (.string a0) ∧ V.cell? ⟨w5.heap.size, 3, none⟩ = some (.int .i64 0)) := fun V e => (HW6.out.2.ext e).2.1
     refine wp_region_held_drew (S := (fun V => V.cell? ⟨w5.heap.size, 0, none⟩ = some (.int .i64 3) ∧ V.cell? ⟨w5.heap.size, 1, none⟩ = some (.int .i64 0) ∧ V.cell? ⟨w5.heap.size, 2, none⟩ = some (.string a0) ∧ V.cell? ⟨w5.heap.size, 3, none⟩ = some (.int .i64 0))) (by kernel_rfl) ?_ (fun hHeld0 => ?_)
     · (refine mkS.out _ ?_; ((with_reducible (repeat (first | assumption | exact Ext.refl _ | apply Ext.alloc | apply Ext.drew | apply Ext.drewN))); done))
     refine wpAnyH_take (i := 0) (oi := ⟨some 37, .load 25 (.tmp 5), 25, "law.go:62", #[], none⟩) (v := ?_) rfl (by kernel_rfl) (by kernel_rfl) (by kernel_rfl) (fun _ _ _ h => h) (Or.inl ⟨by rfl, ?_⟩) (by assumption) ?_
     rotate_left
     · intro w hSw; (try dsimp only at hSw); first | (go_simp; done) | (go_simp; with_reducible rfl)
     try simp only [Act.put, List.setIfInBounds_toArray, List.set_cons_zero, List.set_cons_succ]
     refine wpAnyH_take (i := 1) (oi := ⟨some 38, .move (.tmp 0), 9, "law.go:62", #[], none⟩) (v := ?_) rfl (by kernel_rfl) (by kernel_rfl) (by kernel_rfl) (fun _ _ _ h => h) (Or.inl ⟨by rfl, ?_⟩) (by assumption) ?_
     rotate_left
     · intro w hSw; (try dsimp only at hSw); first | (go_simp; done) | (go_simp; with_reducible rfl)
     try simp only [Act.put, List.setIfInBounds_toArray, List.set_cons_zero, List.set_cons_succ]
     refine wpAnyH_take (i := 2) (oi := ⟨some 39, .move (.tmp 6), 3, "law.go:62", #[], none⟩) (v := ?_) rfl (by kernel_rfl) (by kernel_rfl) (by kernel_rfl) (fun _ _ _ h => h) (Or.inl ⟨by rfl, ?_⟩) (by assumption) ?_
     rotate_left
     · intro w hSw; (try dsimp only at hSw); first | (go_simp; done) | (go_simp; with_reducible rfl)
     try simp only [Act.put, List.setIfInBounds_toArray, List.set_cons_zero, List.set_cons_succ]
     refine wpAnyH_take (i := 3) (oi := ⟨some 40, .slice 9 (.tmp 38) none (some (.tmp 39)) none, 9, "law.go:62", #[⟨1, .data⟩, ⟨2, .data⟩], none⟩) (v := ?_) rfl (by kernel_rfl) (by kernel_rfl) (by kernel_rfl) (fun _ _ _ h => h) (Or.inl ⟨by rfl, ?_⟩) (by assumption) ?_
     rotate_left
     · intro w hSw; (try dsimp only at hSw); first | (go_simp; done) | (go_simp; with_reducible rfl)
     try simp only [Act.put, List.setIfInBounds_toArray, List.set_cons_zero, List.set_cons_succ]
     refine wpAnyH_ready (rs := [4]) (by kernel_rfl) (by simp) ?_
     refine AllReadyH.cons (o := ⟨some 41, .call { callee := .value (.func 16), args := #[.tmp 40], argTypes := #[9] }, 25, "law.go:62", #[⟨3, .data⟩], none⟩) rfl (fun K hK => ?_) AllReadyH.nil
     go_simp
     (go_at_call 16; refine Calls.mono (cT _ _ HL.out.1) ?_; rintro e y1 ⟨rfl, E1⟩; have X1 : Ext w6 y1 := Ext.trans (by with_reducible repeat (first | assumption | exact Ext.refl _ | apply Ext.alloc | apply Ext.drew | apply Ext.drewN)) E1)
     try go_wp2_with fail
     refine hK.out _ _ ?_ (fun hHeld1 => ?_)
     · (try dsimp only); (refine mkS.out _ ?_; ((with_reducible (repeat (first | assumption | exact Ext.refl _ | apply Ext.alloc | apply Ext.drew | apply Ext.drewN))); done))
     clear hK K hHeld0
     try simp only [Act.put, List.setIfInBounds_toArray, List.set_cons_zero, List.set_cons_succ]
     refine wpAnyH_take (i := 5) (oi := ⟨some 42, .binOp .eql 25 (.tmp 37) (.tmp 41) 25, 4, "law.go:62", #[⟨0, .data⟩, ⟨4, .data⟩], none⟩) (v := ?_) rfl (by kernel_rfl) (by kernel_rfl) (by kernel_rfl) (fun _ _ _ h => h) (Or.inl ⟨by rfl, ?_⟩) (by assumption) ?_
     rotate_left
     · intro w hSw; (try dsimp only at hSw); first | (go_simp; done) | (go_simp; with_reducible rfl)
     try simp only [Act.put, List.setIfInBounds_toArray, List.set_cons_zero, List.set_cons_succ]
     refine wpAnyH_take (i := 6) (oi := ⟨some 43, .move (.tmp 42), 4, "law.go:62", #[⟨5, .data⟩, ⟨4, .chain⟩], none⟩) (v := ?_) rfl (by kernel_rfl) (by kernel_rfl) (by kernel_rfl) (fun _ _ _ h => h) (Or.inl ⟨by rfl, ?_⟩) (by assumption) ?_
     rotate_left
     · intro w hSw; (try dsimp only at hSw); first | (go_simp; done) | (go_simp; with_reducible rfl)
     try simp only [Act.put, List.setIfInBounds_toArray, List.set_cons_zero, List.set_cons_succ]
     refine wpAnyH_take (i := 7) (oi := ⟨some 44, .load 25 (.tmp 5), 25, "law.go:62", #[⟨6, .guard⟩], some (6, true)⟩) (v := ?_) rfl (by kernel_rfl) (by kernel_rfl) (by kernel_rfl) (fun _ _ _ h => h) (Or.inl ⟨by rfl, ?_⟩) (by assumption) ?_
     rotate_left
     · intro w hSw; (try dsimp only at hSw); first | (go_simp; done) | (go_simp; with_reducible rfl)
     try simp only [Act.put, List.setIfInBounds_toArray, List.set_cons_zero, List.set_cons_succ]
     refine wpAnyH_take (i := 11) (oi := ⟨some 48, .move (.tmp 6), 3, "law.go:62", #[⟨6, .guard⟩], some (6, true)⟩) (v := ?_) rfl (by kernel_rfl) (by kernel_rfl) (by kernel_rfl) (fun _ _ _ h => h) (Or.inl ⟨by rfl, ?_⟩) (by assumption) ?_
     rotate_left
     · intro w hSw; (try dsimp only at hSw); first | (go_simp; done) | (go_simp; with_reducible rfl)
     try simp only [Act.put, List.setIfInBounds_toArray, List.set_cons_zero, List.set_cons_succ]
     refine wpAnyH_take (i := 12) (oi := ⟨some 49, .binOp .mul 2 (.tmp 48) (.const (.int .i64 10000)) 2, 2, "law.go:62", #[⟨11, .data⟩, ⟨6, .guard⟩], some (6, true)⟩) (v := ?_) rfl (by kernel_rfl) (by kernel_rfl) (by kernel_rfl) (fun _ _ _ h => h) (Or.inl ⟨by rfl, ?_⟩) (by assumption) ?_
     rotate_left
     · intro w hSw; (try dsimp only at hSw); first | (go_simp; done) | (go_simp; with_reducible rfl)
     try simp only [Act.put, List.setIfInBounds_toArray, List.set_cons_zero, List.set_cons_succ]
     refine wpAnyH_ready (rs := [8]) (by kernel_rfl) (by simp) ?_
     refine AllReadyH.cons (o := ⟨some 45, .call { callee := .value (.func 13), args := #[.tmp 44], argTypes := #[25] }, 31, "law.go:62", #[⟨7, .data⟩, ⟨6, .chain⟩, ⟨6, .guard⟩], some (6, true)⟩) rfl (fun K hK => ?_) AllReadyH.nil
     go_simp
     (go_at_call 13; refine Calls.mono (of_any 3 0 a0 0 _) ?_; rintro e y2 ⟨g2, rfl, B2, E2⟩; have X2 : Ext w6 y2 := Ext.trans (by with_reducible repeat (first | assumption | exact Ext.refl _ | apply Ext.alloc | apply Ext.drew | apply Ext.drewN)) E2; have HB2 : Hid (Blk y2 g2 (.int .i64 3) (.int .i64 0) (.string a0) (.int .i64 0)) := B2; clear B2 E2)
     try go_wp2_with fail
     refine hK.out _ _ ?_ (fun hHeld2 => ?_)
     · (try dsimp only); (refine mkS.out _ ?_; ((with_reducible (repeat (first | assumption | exact Ext.refl _ | apply Ext.alloc | apply Ext.drew | apply Ext.drewN))); done))
     clear hK K hHeld1
     try simp only [Act.put, List.setIfInBounds_toArray, List.set_cons_zero, List.set_cons_succ]
     refine wpAnyH_ready (rs := [9]) (by kernel_rfl) (by simp) ?_
     refine AllReadyH.cons (o := ⟨some 46, .buildSlice 22 1 #[(0, .tmp 45)], 22, "law.go:62", #[⟨8, .data⟩, ⟨6, .guard⟩], some (6, true)⟩) rfl (fun K hK => ?_) AllReadyH.nil
     go_simp
     skip
     try go_wp2_with fail
     refine hK.out _ _ ?_ (fun hHeld3 => ?_)
     · (try dsimp only); (refine mkS.out _ ?_; ((with_reducible (repeat (first | assumption | exact Ext.refl _ | apply Ext.alloc | apply Ext.drew | apply Ext.drewN))); done))
     clear hK K hHeld2
     try simp only [Act.put, List.setIfInBounds_toArray, List.set_cons_zero, List.set_cons_succ]
     refine wpAnyH_ready (rs := [10]) (by kernel_rfl) (by simp) ?_
     refine AllReadyH.cons (o := ⟨some 47, .call { callee := .value (.func 10), args := #[.const (.string ⟨#[76, 69, 78]⟩), .tmp 46], argTypes := #[9, 22] }, 25, "law.go:62", #[⟨9, .data⟩, ⟨8, .chain⟩, ⟨6, .guard⟩], some (6, true)⟩) rfl (fun K hK => ?_) AllReadyH.nil
     go_simp
     (go_at_call 10; refine Calls.mono (cK _ _ HB2.out (HW6.out.1.trans X2)) ?_; rintro e y3 ⟨rfl, E3⟩; have X3 : Ext w6 y3 := Ext.trans (by with_reducible repeat (first | assumption | exact Ext.refl _ | apply Ext.alloc | apply Ext.drew | apply Ext.drewN)) E3)
     try go_wp2_with fail
     refine hK.out _ _ ?_ (fun hHeld4 => ?_)
     · (try dsimp only); (refine mkS.out _ ?_; ((with_reducible (repeat (first | assumption | exact Ext.refl _ | apply Ext.alloc | apply Ext.drew | apply Ext.drewN))); done))
     clear hK K hHeld3
     try simp only [Act.put, List.setIfInBounds_toArray, List.set_cons_zero, List.set_cons_succ]
     refine wpAnyH_ready (rs := [13]) (by kernel_rfl) (by simp) ?_
     refine AllReadyH.cons (o := ⟨some 50, .call { callee := .value (.func 17), args := #[.tmp 49], argTypes := #[2] }, 25, "law.go:62", #[⟨12, .data⟩, ⟨10, .chain⟩, ⟨6, .guard⟩], some (6, true)⟩) rfl (fun K hK => ?_) AllReadyH.nil
     go_simp
     (go_at_call 17; refine Calls.mono (cN _ _ HL.out.2) ?_; rintro e y4 ⟨rfl, E4⟩; have X4 : Ext w6 y4 := Ext.trans (by with_reducible repeat (first | assumption | exact Ext.refl _ | apply Ext.alloc | apply Ext.drew | apply Ext.drewN)) E4)
     try go_wp2_with fail
     refine hK.out _ _ ?_ (fun hHeld5 => ?_)
     · (try dsimp only); (refine mkS.out _ ?_; ((with_reducible (repeat (first | assumption | exact Ext.refl _ | apply Ext.alloc | apply Ext.drew | apply Ext.drewN))); done))
     clear hK K hHeld4
     try simp only [Act.put, List.setIfInBounds_toArray, List.set_cons_zero, List.set_cons_succ]
     refine wpAnyH_take (i := 14) (oi := ⟨some 51, .binOp .eql 25 (.tmp 47) (.tmp 50) 25, 4, "law.go:62", #[⟨10, .data⟩, ⟨13, .data⟩, ⟨6, .guard⟩], some (6, true)⟩) (v := ?_) rfl (by kernel_rfl) (by kernel_rfl) (by kernel_rfl) (fun _ _ _ h => h) (Or.inl ⟨by rfl, ?_⟩) (by assumption) ?_
     rotate_left
     · intro w hSw; (try dsimp only at hSw); first | (go_simp; done) | (go_simp; with_reducible rfl)
     try simp only [Act.put, List.setIfInBounds_toArray, List.set_cons_zero, List.set_cons_succ]
     refine wpAnyH_take (i := 15) (oi := ⟨some 52, .pick (.tmp 43) (.tmp 51) (.const (.bool false)), 4, "law.go:62", #[⟨6, .data⟩, ⟨14, .data⟩], none⟩) (v := ?_) rfl (by kernel_rfl) (by kernel_rfl) (by kernel_rfl) (fun _ _ _ h => h) (Or.inl ⟨by rfl, ?_⟩) (by assumption) ?_
     rotate_left
     · intro w hSw; (try dsimp only at hSw); first | (go_simp; done) | (go_simp; with_reducible rfl)
     try simp only [Act.put, List.setIfInBounds_toArray, List.set_cons_zero, List.set_cons_succ]
     refine wpAnyH_take (i := 16) (oi := ⟨some 53, .move (.tmp 52), 4, "law.go:62", #[⟨15, .data⟩, ⟨13, .chain⟩], none⟩) (v := ?_) rfl (by kernel_rfl) (by kernel_rfl) (by kernel_rfl) (fun _ _ _ h => h) (Or.inl ⟨by rfl, ?_⟩) (by assumption) ?_
     rotate_left
     · intro w hSw; (try dsimp only at hSw); first | (go_simp; done) | (go_simp; with_reducible rfl)
     try simp only [Act.put, List.setIfInBounds_toArray, List.set_cons_zero, List.set_cons_succ]
     refine wpAnyH_ready (rs := [17]) (by kernel_rfl) (by simp) ?_
     refine AllReadyH.cons (o := ⟨some 54, .call { callee := .value (.func 9), args := #[], argTypes := #[] }, 4, "law.go:62", #[⟨16, .chain⟩, ⟨16, .guard⟩], some (16, true)⟩) rfl (fun K hK => ?_) AllReadyH.nil
     go_simp
     (go_at_call 9; refine Calls.mono (cV _ (HW6.out.1.trans (by with_reducible repeat (first | assumption | exact Ext.refl _ | apply Ext.alloc | apply Ext.drew | apply Ext.drewN)))) ?_; rintro e y5 ⟨rfl, E5⟩; have X5 : Ext w6 y5 := Ext.trans (by with_reducible repeat (first | assumption | exact Ext.refl _ | apply Ext.alloc | apply Ext.drew | apply Ext.drewN)) E5)
     try go_wp2_with fail
     refine hK.out _ _ ?_ (fun hHeld6 => ?_)
     · (try dsimp only); (refine mkS.out _ ?_; ((with_reducible (repeat (first | assumption | exact Ext.refl _ | apply Ext.alloc | apply Ext.drew | apply Ext.drewN))); done))
     clear hK K hHeld5
     try simp only [Act.put, List.setIfInBounds_toArray, List.set_cons_zero, List.set_cons_succ]
     refine wpAnyH_take (i := 18) (oi := ⟨some 55, .pick (.tmp 53) (.tmp 54) (.const (.bool false)), 4, "law.go:62", #[⟨16, .data⟩, ⟨17, .data⟩], none⟩) (v := ?_) rfl (by kernel_rfl) (by kernel_rfl) (by kernel_rfl) (fun _ _ _ h => h) (Or.inl ⟨by rfl, ?_⟩) (by assumption) ?_
     rotate_left
     · intro w hSw; (try dsimp only at hSw); first | (go_simp; done) | (go_simp; with_reducible rfl)
     try simp only [Act.put, List.setIfInBounds_toArray, List.set_cons_zero, List.set_cons_succ]
     refine wpAnyH_take (i := 19) (oi := ⟨some 4, .assign (.tmp 55), 4, "law.go:62", #[⟨18, .data⟩, ⟨17, .chain⟩, ⟨0, .phase⟩, ⟨1, .phase⟩, ⟨2, .phase⟩, ⟨3, .phase⟩, ⟨4, .phase⟩, ⟨5, .phase⟩, ⟨6, .phase⟩, ⟨7, .phase⟩, ⟨8, .phase⟩, ⟨9, .phase⟩, ⟨10, .phase⟩, ⟨11, .phase⟩, ⟨12, .phase⟩, ⟨13, .phase⟩, ⟨14, .phase⟩, ⟨15, .phase⟩, ⟨16, .phase⟩, ⟨17, .phase⟩, ⟨18, .phase⟩], none⟩) (v := ?_) rfl (by kernel_rfl) (by kernel_rfl) (by kernel_rfl) (fun _ _ _ h => h) (Or.inl ⟨by rfl, ?_⟩) (by assumption) ?_
     rotate_left
     · intro w hSw; (try dsimp only at hSw); first | (go_simp; done) | (go_simp; with_reducible rfl)
     try simp only [Act.put, List.setIfInBounds_toArray, List.set_cons_zero, List.set_cons_succ]
     refine wpAnyH_done (by kernel_rfl) ?_ _
     go_wp2_with fail
     go_ret
     exact ⟨rfl, HW6.out.1.trans (by with_reducible repeat (first | assumption | exact Ext.refl _ | apply Ext.alloc | apply Ext.drew | apply Ext.drewN))⟩
   · obtain ⟨k, hk⟩ : ∃ k : Nat, a1 = (k : Int) := ⟨a1.toNat, by omega⟩
     have hB : begB a0 a1 = a0.extract 0 k := by unfold begB; rw [show min a1 (a0.size : Int) = (k : Int) by omega]; rfl
     have hz : (a0.extract 0 k).size = k := by rw [ByteArray.size_extract]; omega
     have cK := cK0 (a0.extract 0 k)
     rw [show (⟨#[76, 69, 78]⟩ : ByteArray).data.toList = [76, 69, 78] from rfl, len_of _ (by rw [hz]; have := HS.out; omega)] at cK
     simp only [V.k, V.n, V.s, V.e] at cK
     rw [hz] at cK
     have HL : Hid ((a0.extract 0 k).size ≤ 300 ∧ canB ((k : Int) * 10000) = true) := ⟨by rw [hz]; have := HS.out; omega, canB_of (by omega)⟩
     subst hk
     have k3 : IntKind.i64.wrap ((k : Int) * 10000) = (k : Int) * 10000 := wrap_small _ (by omega) (by omega)
     rw [hB] at cL
     have hks : k ≤ a0.size := by omega
     clear hB hz cK0
     go_enter Tryz.func5, Tryz.ntmps5
     go_wp2_with fail
     refine (cT _ _ HS.out).mono ?_
     rintro e w1 ⟨rfl, Ew1⟩
     have Hw1 : Hid (Ext w w1) := (Ext.refl _).trans Ew1
     clear Ew1
     go_wp2_with fail
     refine (of_any 3 0 a0 0 _).mono ?_
     rintro e w2 ⟨g2, rfl, Bw2, Ew2⟩
     have Hw2 : Hid (Ext w w2 ∧ Blk w2 g2 (.int .i64 3) (.int .i64 0) (.string a0) (.int .i64 0)) := ⟨(Hw1.out).trans Ew2, Bw2⟩
     clear Ew2 Bw2
     go_wp2_with fail
     refine (cN _ _ HC.out).mono ?_
     rintro e w3 ⟨rfl, Ew3⟩
     have Hw3 : Hid (Ext w w3 ∧ Blk w3 g2 (.int .i64 3) (.int .i64 0) (.string a0) (.int .i64 0)) := ⟨(Hw2.out.1).trans Ew3, (Hw2.out.2).ext Ew3⟩
     clear Ew3
     go_wp2_with fail
     refine (of_any 2 ((k : Int) * 10000) ⟨#[]⟩ 0 _).mono ?_
     rintro e w4 ⟨g4, rfl, Bw4, Ew4⟩
     have Hw4 : Hid (Ext w w4 ∧ Blk w4 g2 (.int .i64 3) (.int .i64 0) (.string a0) (.int .i64 0) ∧ Blk w4 g4 (.int .i64 2) (.int .i64 ((k : Int) * 10000)) (.string ⟨#[]⟩) (.int .i64 0)) := ⟨(Hw3.out.1).trans Ew4, (Hw3.out.2).ext Ew4, Bw4⟩
     clear Ew4 Bw4
     go_wp2_with fail
     refine (cL _ _ _ (Hw4.out.2.1) (Hw4.out.2.2) (Hw4.out.1)).mono ?_
     rintro e w5 ⟨rfl, Ew5⟩
     have Hw5 : Hid (Ext w w5 ∧ Blk w5 g2 (.int .i64 3) (.int .i64 0) (.string a0) (.int .i64 0) ∧ Blk w5 g4 (.int .i64 2) (.int .i64 ((k : Int) * 10000)) (.string ⟨#[]⟩) (.int .i64 0)) := ⟨(Hw4.out.1).trans Ew5, (Hw4.out.2.1).ext Ew5, (Hw4.out.2.2).ext Ew5⟩
     clear Ew5
     have KHw5 : Hid (Ext w w5) := Hw5.out.1
     clear Hw5
     go_upto_region 9 with fail
     have HW6 : Hid (Ext w (w5.alloc (.cells #[.int .i64 3, .int .i64 0, .string (a0.extract 0 k), .int .i64 0] 25)) ∧ Blk (w5.alloc (.cells #[.int .i64 3, .int .i64 0, .string (a0.extract 0 k), .int .i64 0] 25)) w5.heap.size (.int .i64 3) (.int .i64 0) (.string (a0.extract 0 k)) (.int .i64 0)) := ⟨KHw5.out.alloc _, blk_top (by simp) (Ext.refl _)⟩
     generalize (w5.alloc (.cells #[.int .i64 3, .int .i64 0, .string (a0.extract 0 k), .int .i64 0] 25)) = w6 at *
     have mkS : Hid (∀ V, Ext w6 V → V.cell? ⟨w5.heap.size, 0, none⟩ = some (.int .i64 3) ∧ V.cell? ⟨w5.heap.size, 1, none⟩ = some (.int .i64 0) ∧ V.cell? ⟨w5.heap.size, 2, none⟩ = some (.string (a0.extract 0 k)) ∧ V.cell? ⟨w5.heap.size, 3, none⟩ = some (.int .i64 0)) := fun V e => (HW6.out.2.ext e).2.1
     refine wp_region_held_drew (S := (fun V => V.cell? ⟨w5.heap.size, 0, none⟩ = some (.int .i64 3) ∧ V.cell? ⟨w5.heap.size, 1, none⟩ = some (.int .i64 0) ∧ V.cell? ⟨w5.heap.size, 2, none⟩ = some (.string (a0.extract 0 k)) ∧ V.cell? ⟨w5.heap.size, 3, none⟩ = some (.int .i64 0))) (by kernel_rfl) ?_ (fun hHeld0 => ?_)
     · (refine mkS.out _ ?_; ((with_reducible (repeat (first | assumption | exact Ext.refl _ | apply Ext.alloc | apply Ext.drew | apply Ext.drewN))); done))
     refine wpAnyH_take (i := 0) (oi := ⟨some 37, .load 25 (.tmp 5), 25, "law.go:62", #[], none⟩) (v := ?_) rfl (by kernel_rfl) (by kernel_rfl) (by kernel_rfl) (fun _ _ _ h => h) (Or.inl ⟨by rfl, ?_⟩) (by assumption) ?_
     rotate_left
     · intro w hSw; (try dsimp only at hSw); first | (go_simp; done) | (go_simp; with_reducible rfl)
     try simp only [Act.put, List.setIfInBounds_toArray, List.set_cons_zero, List.set_cons_succ]
     refine wpAnyH_take (i := 1) (oi := ⟨some 38, .move (.tmp 0), 9, "law.go:62", #[], none⟩) (v := ?_) rfl (by kernel_rfl) (by kernel_rfl) (by kernel_rfl) (fun _ _ _ h => h) (Or.inl ⟨by rfl, ?_⟩) (by assumption) ?_
     rotate_left
     · intro w hSw; (try dsimp only at hSw); first | (go_simp; done) | (go_simp; with_reducible rfl)
     try simp only [Act.put, List.setIfInBounds_toArray, List.set_cons_zero, List.set_cons_succ]
     refine wpAnyH_take (i := 2) (oi := ⟨some 39, .move (.tmp 6), 3, "law.go:62", #[], none⟩) (v := ?_) rfl (by kernel_rfl) (by kernel_rfl) (by kernel_rfl) (fun _ _ _ h => h) (Or.inl ⟨by rfl, ?_⟩) (by assumption) ?_
     rotate_left
     · intro w hSw; (try dsimp only at hSw); first | (go_simp; done) | (go_simp; with_reducible rfl)
     try simp only [Act.put, List.setIfInBounds_toArray, List.set_cons_zero, List.set_cons_succ]
     refine wpAnyH_take (i := 3) (oi := ⟨some 40, .slice 9 (.tmp 38) none (some (.tmp 39)) none, 9, "law.go:62", #[⟨1, .data⟩, ⟨2, .data⟩], none⟩) (v := ?_) rfl (by kernel_rfl) (by kernel_rfl) (by kernel_rfl) (fun _ _ _ h => h) (Or.inl ⟨by rfl, ?_⟩) (by assumption) ?_
     rotate_left
     · intro w hSw; (try dsimp only at hSw); first | (go_simp; done) | (go_simp; with_reducible rfl)
     try simp only [Act.put, List.setIfInBounds_toArray, List.set_cons_zero, List.set_cons_succ]
     refine wpAnyH_ready (rs := [4]) (by kernel_rfl) (by simp) ?_
     refine AllReadyH.cons (o := ⟨some 41, .call { callee := .value (.func 16), args := #[.tmp 40], argTypes := #[9] }, 25, "law.go:62", #[⟨3, .data⟩], none⟩) rfl (fun K hK => ?_) AllReadyH.nil
     go_simp
     (go_at_call 16; refine Calls.mono (cT _ _ HL.out.1) ?_; rintro e y1 ⟨rfl, E1⟩; have X1 : Ext w6 y1 := Ext.trans (by with_reducible repeat (first | assumption | exact Ext.refl _ | apply Ext.alloc | apply Ext.drew | apply Ext.drewN)) E1)
     try go_wp2_with fail
     refine hK.out _ _ ?_ (fun hHeld1 => ?_)
     · (try dsimp only); (refine mkS.out _ ?_; ((with_reducible (repeat (first | assumption | exact Ext.refl _ | apply Ext.alloc | apply Ext.drew | apply Ext.drewN))); done))
     clear hK K hHeld0
     try simp only [Act.put, List.setIfInBounds_toArray, List.set_cons_zero, List.set_cons_succ]
     refine wpAnyH_take (i := 5) (oi := ⟨some 42, .binOp .eql 25 (.tmp 37) (.tmp 41) 25, 4, "law.go:62", #[⟨0, .data⟩, ⟨4, .data⟩], none⟩) (v := ?_) rfl (by kernel_rfl) (by kernel_rfl) (by kernel_rfl) (fun _ _ _ h => h) (Or.inl ⟨by rfl, ?_⟩) (by assumption) ?_
     rotate_left
     · intro w hSw; (try dsimp only at hSw); first | (go_simp; done) | (go_simp; with_reducible rfl)
     try simp only [Act.put, List.setIfInBounds_toArray, List.set_cons_zero, List.set_cons_succ]
     refine wpAnyH_take (i := 6) (oi := ⟨some 43, .move (.tmp 42), 4, "law.go:62", #[⟨5, .data⟩, ⟨4, .chain⟩], none⟩) (v := ?_) rfl (by kernel_rfl) (by kernel_rfl) (by kernel_rfl) (fun _ _ _ h => h) (Or.inl ⟨by rfl, ?_⟩) (by assumption) ?_
     rotate_left
     · intro w hSw; (try dsimp only at hSw); first | (go_simp; done) | (go_simp; with_reducible rfl)
     try simp only [Act.put, List.setIfInBounds_toArray, List.set_cons_zero, List.set_cons_succ]
     refine wpAnyH_take (i := 7) (oi := ⟨some 44, .load 25 (.tmp 5), 25, "law.go:62", #[⟨6, .guard⟩], some (6, true)⟩) (v := ?_) rfl (by kernel_rfl) (by kernel_rfl) (by kernel_rfl) (fun _ _ _ h => h) (Or.inl ⟨by rfl, ?_⟩) (by assumption) ?_
     rotate_left
     · intro w hSw; (try dsimp only at hSw); first | (go_simp; done) | (go_simp; with_reducible rfl)
     try simp only [Act.put, List.setIfInBounds_toArray, List.set_cons_zero, List.set_cons_succ]
     refine wpAnyH_take (i := 11) (oi := ⟨some 48, .move (.tmp 6), 3, "law.go:62", #[⟨6, .guard⟩], some (6, true)⟩) (v := ?_) rfl (by kernel_rfl) (by kernel_rfl) (by kernel_rfl) (fun _ _ _ h => h) (Or.inl ⟨by rfl, ?_⟩) (by assumption) ?_
     rotate_left
     · intro w hSw; (try dsimp only at hSw); first | (go_simp; done) | (go_simp; with_reducible rfl)
     try simp only [Act.put, List.setIfInBounds_toArray, List.set_cons_zero, List.set_cons_succ]
     refine wpAnyH_take (i := 12) (oi := ⟨some 49, .binOp .mul 2 (.tmp 48) (.const (.int .i64 10000)) 2, 2, "law.go:62", #[⟨11, .data⟩, ⟨6, .guard⟩], some (6, true)⟩) (v := ?_) rfl (by kernel_rfl) (by kernel_rfl) (by kernel_rfl) (fun _ _ _ h => h) (Or.inl ⟨by rfl, ?_⟩) (by assumption) ?_
     rotate_left
     · intro w hSw; (try dsimp only at hSw); first | (go_simp; done) | (go_simp; with_reducible rfl)
     try simp only [Act.put, List.setIfInBounds_toArray, List.set_cons_zero, List.set_cons_succ]
     refine wpAnyH_ready (rs := [8]) (by kernel_rfl) (by simp) ?_
     refine AllReadyH.cons (o := ⟨some 45, .call { callee := .value (.func 13), args := #[.tmp 44], argTypes := #[25] }, 31, "law.go:62", #[⟨7, .data⟩, ⟨6, .chain⟩, ⟨6, .guard⟩], some (6, true)⟩) rfl (fun K hK => ?_) AllReadyH.nil
     go_simp
     (go_at_call 13; refine Calls.mono (of_any 3 0 (a0.extract 0 k) 0 _) ?_; rintro e y2 ⟨g2, rfl, B2, E2⟩; have X2 : Ext w6 y2 := Ext.trans (by with_reducible repeat (first | assumption | exact Ext.refl _ | apply Ext.alloc | apply Ext.drew | apply Ext.drewN)) E2; have HB2 : Hid (Blk y2 g2 (.int .i64 3) (.int .i64 0) (.string (a0.extract 0 k)) (.int .i64 0)) := B2; clear B2 E2)
     try go_wp2_with fail
     refine hK.out _ _ ?_ (fun hHeld2 => ?_)
     · (try dsimp only); (refine mkS.out _ ?_; ((with_reducible (repeat (first | assumption | exact Ext.refl _ | apply Ext.alloc | apply Ext.drew | apply Ext.drewN))); done))
     clear hK K hHeld1
     try simp only [Act.put, List.setIfInBounds_toArray, List.set_cons_zero, List.set_cons_succ]
     refine wpAnyH_ready (rs := [9]) (by kernel_rfl) (by simp) ?_
     refine AllReadyH.cons (o := ⟨some 46, .buildSlice 22 1 #[(0, .tmp 45)], 22, "law.go:62", #[⟨8, .data⟩, ⟨6, .guard⟩], some (6, true)⟩) rfl (fun K hK => ?_) AllReadyH.nil
     go_simp
     skip
     try go_wp2_with fail
     refine hK.out _ _ ?_ (fun hHeld3 => ?_)
     · (try dsimp only); (refine mkS.out _ ?_; ((with_reducible (repeat (first | assumption | exact Ext.refl _ | apply Ext.alloc | apply Ext.drew | apply Ext.drewN))); done))
     clear hK K hHeld2
     try simp only [Act.put, List.setIfInBounds_toArray, List.set_cons_zero, List.set_cons_succ]
     refine wpAnyH_ready (rs := [10]) (by kernel_rfl) (by simp) ?_
     refine AllReadyH.cons (o := ⟨some 47, .call { callee := .value (.func 10), args := #[.const (.string ⟨#[76, 69, 78]⟩), .tmp 46], argTypes := #[9, 22] }, 25, "law.go:62", #[⟨9, .data⟩, ⟨8, .chain⟩, ⟨6, .guard⟩], some (6, true)⟩) rfl (fun K hK => ?_) AllReadyH.nil
     go_simp
     (go_at_call 10; refine Calls.mono (cK _ _ HB2.out (HW6.out.1.trans X2)) ?_; rintro e y3 ⟨rfl, E3⟩; have X3 : Ext w6 y3 := Ext.trans (by with_reducible repeat (first | assumption | exact Ext.refl _ | apply Ext.alloc | apply Ext.drew | apply Ext.drewN)) E3)
     try go_wp2_with fail
     refine hK.out _ _ ?_ (fun hHeld4 => ?_)
     · (try dsimp only); (refine mkS.out _ ?_; ((with_reducible (repeat (first | assumption | exact Ext.refl _ | apply Ext.alloc | apply Ext.drew | apply Ext.drewN))); done))
     clear hK K hHeld3
     try simp only [Act.put, List.setIfInBounds_toArray, List.set_cons_zero, List.set_cons_succ]
     refine wpAnyH_ready (rs := [13]) (by kernel_rfl) (by simp) ?_
     refine AllReadyH.cons (o := ⟨some 50, .call { callee := .value (.func 17), args := #[.tmp 49], argTypes := #[2] }, 25, "law.go:62", #[⟨12, .data⟩, ⟨10, .chain⟩, ⟨6, .guard⟩], some (6, true)⟩) rfl (fun K hK => ?_) AllReadyH.nil
     go_simp
     (go_at_call 17; refine Calls.mono (cN _ _ HL.out.2) ?_; rintro e y4 ⟨rfl, E4⟩; have X4 : Ext w6 y4 := Ext.trans (by with_reducible repeat (first | assumption | exact Ext.refl _ | apply Ext.alloc | apply Ext.drew | apply Ext.drewN)) E4)
     try go_wp2_with fail
     refine hK.out _ _ ?_ (fun hHeld5 => ?_)
     · (try dsimp only); (refine mkS.out _ ?_; ((with_reducible (repeat (first | assumption | exact Ext.refl _ | apply Ext.alloc | apply Ext.drew | apply Ext.drewN))); done))
     clear hK K hHeld4
     try simp only [Act.put, List.setIfInBounds_toArray, List.set_cons_zero, List.set_cons_succ]
     refine wpAnyH_take (i := 14) (oi := ⟨some 51, .binOp .eql 25 (.tmp 47) (.tmp 50) 25, 4, "law.go:62", #[⟨10, .data⟩, ⟨13, .data⟩, ⟨6, .guard⟩], some (6, true)⟩) (v := ?_) rfl (by kernel_rfl) (by kernel_rfl) (by kernel_rfl) (fun _ _ _ h => h) (Or.inl ⟨by rfl, ?_⟩) (by assumption) ?_
     rotate_left
     · intro w hSw; (try dsimp only at hSw); first | (go_simp; done) | (go_simp; with_reducible rfl)
     try simp only [Act.put, List.setIfInBounds_toArray, List.set_cons_zero, List.set_cons_succ]
     refine wpAnyH_take (i := 15) (oi := ⟨some 52, .pick (.tmp 43) (.tmp 51) (.const (.bool false)), 4, "law.go:62", #[⟨6, .data⟩, ⟨14, .data⟩], none⟩) (v := ?_) rfl (by kernel_rfl) (by kernel_rfl) (by kernel_rfl) (fun _ _ _ h => h) (Or.inl ⟨by rfl, ?_⟩) (by assumption) ?_
     rotate_left
     · intro w hSw; (try dsimp only at hSw); first | (go_simp; done) | (go_simp; with_reducible rfl)
     try simp only [Act.put, List.setIfInBounds_toArray, List.set_cons_zero, List.set_cons_succ]
     refine wpAnyH_take (i := 16) (oi := ⟨some 53, .move (.tmp 52), 4, "law.go:62", #[⟨15, .data⟩, ⟨13, .chain⟩], none⟩) (v := ?_) rfl (by kernel_rfl) (by kernel_rfl) (by kernel_rfl) (fun _ _ _ h => h) (Or.inl ⟨by rfl, ?_⟩) (by assumption) ?_
     rotate_left
     · intro w hSw; (try dsimp only at hSw); first | (go_simp; done) | (go_simp; with_reducible rfl)
     try simp only [Act.put, List.setIfInBounds_toArray, List.set_cons_zero, List.set_cons_succ]
     refine wpAnyH_ready (rs := [17]) (by kernel_rfl) (by simp) ?_
     refine AllReadyH.cons (o := ⟨some 54, .call { callee := .value (.func 9), args := #[], argTypes := #[] }, 4, "law.go:62", #[⟨16, .chain⟩, ⟨16, .guard⟩], some (16, true)⟩) rfl (fun K hK => ?_) AllReadyH.nil
     go_simp
     (go_at_call 9; refine Calls.mono (cV _ (HW6.out.1.trans (by with_reducible repeat (first | assumption | exact Ext.refl _ | apply Ext.alloc | apply Ext.drew | apply Ext.drewN)))) ?_; rintro e y5 ⟨rfl, E5⟩; have X5 : Ext w6 y5 := Ext.trans (by with_reducible repeat (first | assumption | exact Ext.refl _ | apply Ext.alloc | apply Ext.drew | apply Ext.drewN)) E5)
     try go_wp2_with fail
     refine hK.out _ _ ?_ (fun hHeld6 => ?_)
     · (try dsimp only); (refine mkS.out _ ?_; ((with_reducible (repeat (first | assumption | exact Ext.refl _ | apply Ext.alloc | apply Ext.drew | apply Ext.drewN))); done))
     clear hK K hHeld5
     try simp only [Act.put, List.setIfInBounds_toArray, List.set_cons_zero, List.set_cons_succ]
     refine wpAnyH_take (i := 18) (oi := ⟨some 55, .pick (.tmp 53) (.tmp 54) (.const (.bool false)), 4, "law.go:62", #[⟨16, .data⟩, ⟨17, .data⟩], none⟩) (v := ?_) rfl (by kernel_rfl) (by kernel_rfl) (by kernel_rfl) (fun _ _ _ h => h) (Or.inl ⟨by rfl, ?_⟩) (by assumption) ?_
     rotate_left
     · intro w hSw; (try dsimp only at hSw); first | (go_simp; done) | (go_simp; with_reducible rfl)
     try simp only [Act.put, List.setIfInBounds_toArray, List.set_cons_zero, List.set_cons_succ]
     refine wpAnyH_take (i := 19) (oi := ⟨some 4, .assign (.tmp 55), 4, "law.go:62", #[⟨18, .data⟩, ⟨17, .chain⟩, ⟨0, .phase⟩, ⟨1, .phase⟩, ⟨2, .phase⟩, ⟨3, .phase⟩, ⟨4, .phase⟩, ⟨5, .phase⟩, ⟨6, .phase⟩, ⟨7, .phase⟩, ⟨8, .phase⟩, ⟨9, .phase⟩, ⟨10, .phase⟩, ⟨11, .phase⟩, ⟨12, .phase⟩, ⟨13, .phase⟩, ⟨14, .phase⟩, ⟨15, .phase⟩, ⟨16, .phase⟩, ⟨17, .phase⟩, ⟨18, .phase⟩], none⟩) (v := ?_) rfl (by kernel_rfl) (by kernel_rfl) (by kernel_rfl) (fun _ _ _ h => h) (Or.inl ⟨by rfl, ?_⟩) (by assumption) ?_
     rotate_left
     · intro w hSw; (try dsimp only at hSw); first | (go_simp; done) | (go_simp; with_reducible rfl)
     try simp only [Act.put, List.setIfInBounds_toArray, List.set_cons_zero, List.set_cons_succ]
     refine wpAnyH_done (by kernel_rfl) ?_ _
     go_wp2_with fail
     go_ret
     exact ⟨rfl, HW6.out.1.trans (by with_reducible repeat (first | assumption | exact Ext.refl _ | apply Ext.alloc | apply Ext.drew | apply Ext.drewN))⟩

theorem laidOut : laidOutB Tryz.prog = true := by kernel_rfl
set_option maxRecDepth 100000 in
theorem contract (H : Type) (enc : TypeId × Value → H) (W : World) (base : Nat) (args : Array Value) (ds gs : List (DataW H)) (before : List MemPlace)
   (hval0 : ∀ (j : Nat) t v, Tryz.f5.params[j]? = some t → args[j]? = some v → Value.okWide Tryz.prog W .any base t v)
   (hW : DataW.Whole enc Tryz.prog Tryz.f5.params.toList Rows.funcsLeftSpec.vars false W args.toList ds gs before) (hL : laidMetH Tryz.prog Rows.funcsLeftRow.laid W) :
   Calls Tryz.prog 5 args W fun e W' => ∃ v, e = .returned v ∧ Rows.funcsLeftSpec.post enc Tryz.prog Tryz.f5 false true false false W args v W' := by
 have hval := hval0
 have hW' := hW
 obtain ⟨p, q, hA0, hV, rfl, hfz, hnd⟩ := hW'
 have hA : DataW.TrodAll enc Tryz.prog W 0 (fun _ => true) true Tryz.f5.params.toList args.toList ds p := hA0
 rw [Tryz.params5] at hA hval
 obtain ⟨v0, vs0, d0, ds0, p0, q0, hargs, rfl, rfl, h0, r0⟩ := trodAll_cons hA
 obtain ⟨v1, vs1, d1, ds1, p1, q1, rfl, rfl, rfl, h1, r1⟩ := trodAll_cons r0
 obtain ⟨rfl, rfl, rfl⟩ := trodAll_nil r1
 obtain rfl : args = #[v0, v1] := by cases args; simp_all
 obtain ⟨rfl, rfl⟩ := trodVars_none hV
 obtain ⟨a0, rfl, rfl, rfl, w0⟩ := open_string Tryz.underlying9 (hval 0 9 v0 rfl rfl) h0
 obtain ⟨a1, rfl, rfl, rfl, w1⟩ := open_int Tryz.underlying36 (hval 1 36 v1 rfl rfl) h1
 clear hA0 hval0
 refine (walk a0 a1 W w0 w1 (nm_ofU hL) (tab_ofU hL)).mono fun e W' ⟨he, bel⟩ => ?_
 subst he
 exact ⟨_, rfl, _, _, _, [], [], [], hW, trodAll_mk1 (shut_bool Tryz.underlying4 _), (trodAll_cons_mk (shut_string Tryz.underlying9 w0) (trodAll_cons_mk (shut_int Tryz.underlying36 w1) trodAll_mk0)), rfl, Below.frame bel _, fun h => by cases h⟩

theorem laid_met (os : Os) : laidMet Tryz.prog Rows.funcsLeftRow.laid ((laidWorldU os).forCall (fun _ _ => 0) ⟨#[], #[.string ⟨#[]⟩, .int .i16 0], []⟩).memory :=
 laidMet_of_run' 8 (by kernel_rfl) (by kernel_rfl)
theorem reads (os : Os) {H : Type} (enc : TypeId × Value → H) : ∃ places, DataW.whole enc Tryz.prog ((laidWorldU os).forCall (fun _ _ => 0) ⟨#[], #[.string ⟨#[]⟩, .int .i16 0], []⟩).memory Tryz.f5.params.toList Rows.funcsLeftSpec.vars false (#[.string ⟨#[]⟩, .int .i16 0] : Array Value).toList 8 = some ([.lit (.string []), .lit (.int .i16 0)], [], places) :=
 ⟨[], by kernel_rfl⟩

set_option maxRecDepth 100000 in
theorem lifted (os : Os) (started : os.Started) (H : Type) (enc : TypeId × Value → H) (F : Stop.Interp) :
   ReturnsInHanded {} Tryz.checked os 5 .any ((OpenSpec.ofChange Rows.funcsLeftSpec).preRow enc Tryz.prog Tryz.f5 Rows.funcsLeftRow.domain false Rows.funcsLeftRow.laid) (((OpenSpec.ofChange Rows.funcsLeftSpec).at F).post enc Tryz.prog Tryz.f5 false true false false) := by
 obtain ⟨places, hx⟩ := reads os enc
 refine returnsInHanded_of_row (C := Tryz.checked) (s := OpenSpec.ofChange Rows.funcsLeftSpec) ownK started (by kernel_rfl) Tryz.func5
   (witness_row_at (enc := enc) (C := Tryz.checked) false (laidWorldU os) #[.string ⟨#[]⟩, .int .i16 0] rfl (by kernel_rfl) (by kernel_rfl) (by kernel_rfl)
     (OpenSpec.preRow_of_cond 8 hx (by kernel_rfl) (fun k hk => by cases hk) (by kernel_rfl) (by
       rw [MakeChecks.laidMetH_plain _ _ _ (by kernel_rfl)]
       exact laid_met os))) ?_
 intro W base args ds gs before hval hW _ _ _ hL _ _
 exact contract H enc W base args ds gs before hval hW hL

theorem said : Rows.FuncsLeftSaid :=
 OpenClaim.holds_of_cond 5 Tryz.f5 rfl rfl rfl rfl rfl rfl rfl ⟨rfl, rfl, rfl, rfl, rfl⟩ rfl rfl rfl rfl rfl (by kernel_rfl) Tryz.func5 (by kernel_rfl)
   (of_decide_eq_true (by kernel_rfl)) (by unfold Func.isWrapper; first | (rw [if_pos (by decide +kernel)]; kernel_rfl) | (rw [if_neg (by decide +kernel)]; exact ⟨rfl, rfl⟩))
   (fun os started H enc _ F => by rw [OpenClaim.pre_eq_preRow]; exact lifted os started H enc F)

theorem plain (f : FuncId) (fn : Func) (hf : Tryz.pinned.checked.prog.funcNamed Rows.funcsLeftRow.func = some f) (hfn : Tryz.pinned.checked.prog.funcs[f]? = some fn) :
   true = Tryz.pinned.checked.prog.looks [] ∧ ∀ (j : Nat) t, fn.params[j]? = some t → Tryz.pinned.checked.prog.wantsStandIn t = false := by
 obtain rfl : f = 5 := Option.some.inj ((show Tryz.prog.funcNamed Rows.funcsLeftRow.func = some 5 by kernel_rfl).symm.trans hf) |>.symm
 obtain rfl : fn = Tryz.f5 := (Option.some.inj (Tryz.func5.symm.trans hfn)).symm
 refine ⟨by kernel_rfl, fun j t ht => ?_⟩
 rw [Tryz.params5] at ht
 have hm : t ∈ [9, 36] := by simpa using Array.mem_of_getElem? ht
 have hall : ([9, 36].all fun u => !Tryz.prog.wantsStandIn u) = true := by kernel_rfl
 exact (show Tryz.prog.wantsStandIn t = false by simpa using List.all_eq_true.1 hall t hm)

theorem card : Rows.FuncsLeftCardSaid :=
 Claim7.holds_tied_plain_at .later [] _ _ _ _ said (fun _ h => by cases h) (by kernel_rfl) (fun _ h => by cases h) funcsLeft_row_tie rfl ⟨rfl, rfl⟩ (by kernel_rfl) rfl plain (by kernel_rfl)
end Go.Proofs.YtalejeknigbhjaaGreatDoor.funcsLeft
namespace Go.Proofs.YtalejeknigbhjaaGreatDoor
theorem funcsLeft_card : Rows.FuncsLeftCardSaid := funcsLeft.card
end Go.Proofs.YtalejeknigbhjaaGreatDoor
