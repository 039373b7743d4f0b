/-
 The contract of math/bits.Div64, walked over the library's own text: quotient and rest of two words by one.
 Contracts of products and quotients of the program: ratio, Mul, Div; and that the law's own small call lives.
 Contracts of the document's words of 128 bits: twice, which is greater, products bit by bit.
 The contract of the document's Signed.
-/
import Derived.Test.YtalejeknigbhjaaGreatDoorY5
import Derived.Deep.CutBlock
import Derived.Deep.DeepCutAuto
import Derived.Test.YtalejeknigbhjaaGreatDoorY1
namespace Go.Proofs.YtalejeknigbhjaaGreatDoor
open Go.RowKit
set_option maxHeartbeats 1000000

theorem rest_lt (U Y : Nat) (h : 0 < Y) : U - U / Y * Y < Y := by
 have h1 := Nat.div_add_mod U Y
 have h2 := Nat.mod_lt U h
 rw [Nat.mul_comm Y (U / Y)] at h1
 omega
theorem div64_pos (hi lo y : Nat) (h1 : hi < y) (h2 : lo < 18446744073709551616) (h3 : y < 18446744073709551616) (h4 : 0 < hi) (w : World) :
   Calls Tryz.prog 145 #[.int .u64 hi, .int .u64 lo, .int .u64 y] w fun e w' => e = .returned (.tuple #[.int .u64 ((hi * 18446744073709551616 + lo) / y : Nat), .int .u64 ((hi * 18446744073709551616 + lo) % y : Nat)]) ∧ Ext w w' := by
 have g1 : ((y : Int) == 0) = false := by simp; omega
 have g2 : ((hi : Int) == 0) = false := by simp; omega
 have g3 : ¬ (y : Int) ≤ hi := by omega
 go_enter Tryz.func145, Tryz.ntmps145
 go_wp2_with fail
 refine (lead_any y _ (by omega) h3).mono ?_
 rintro e w' ⟨s, rfl, s1, s2, s3, rfl⟩
 have hp : 0 < 2 ^ s := Nat.pow_pos (by omega)
 have hhs : (hi + 1) * 2 ^ s ≤ y * 2 ^ s := Nat.mul_le_mul h1 (Nat.le_refl _)
 rw [Nat.add_mul, Nat.one_mul] at hhs
 have e4 := or_words hi lo s s1 h2 (by omega)
 have hU : hi * 2 ^ s + lo / 2 ^ (64 - s) < y * 2 ^ s := by have := lo_small lo s s1 h2; omega
 have hN := shift_words hi lo s s1
 have e1 : IntKind.u64.wrap (↑y * 2 ^ s) = ((y * 2 ^ s : Nat) : Int) := by
   have : ((y : Int) * 2 ^ s) = ((y * 2 ^ s : Nat) : Int) := by simp
   rw [this]; exact wrapN _ s3
 have e5 : IntKind.u64.wrap (↑lo * 2 ^ s) = ((lo * 2 ^ s % 18446744073709551616 : Nat) : Int) := by
   have : ((lo : Int) * 2 ^ s) = ((lo * 2 ^ s : Nat) : Int) := by simp
   rw [this]; exact wrapM _
 have hL : lo * 2 ^ s % 18446744073709551616 < 18446744073709551616 := Nat.mod_lt _ (by decide)
 generalize hi * 2 ^ s + lo / 2 ^ (64 - s) = U at *
 generalize lo * 2 ^ s % 18446744073709551616 = L at *
 obtain ⟨Y, hY⟩ : ∃ Y, Y = y * 2 ^ s := ⟨_, rfl⟩
 rw [← hY] at e1 s2 s3 hU
 have HY : Hid (Y = y * 2 ^ s) := hY
 have HN : Hid ((hi * 18446744073709551616 + lo) * 2 ^ s = U * 18446744073709551616 + L) := hN
 clear hY hN hhs
 have e3 := maskN Y s3
 have e7 := maskN L hL
 have e2 : (Y : Int) / 4294967296 = ((Y / 4294967296 : Nat) : Int) := divN Y
 have e6 : (L : Int) / 4294967296 = ((L / 4294967296 : Nat) : Int) := divN L
 have y1 : 2147483648 ≤ Y / 4294967296 := by omega
 have y1' : Y / 4294967296 < 4294967296 := by omega
 have y0 : Y % 4294967296 < 4294967296 := by omega
 have l1 : L / 4294967296 < 4294967296 := by omega
 have l0 : L % 4294967296 < 4294967296 := by omega
 have HYe : Hid (Y = Y / 4294967296 * 4294967296 + Y % 4294967296) := by show Y = _; omega
 have HLe : Hid (L = L / 4294967296 * 4294967296 + L % 4294967296) := by show L = _; omega
 generalize Y / 4294967296 = Y1 at *
 generalize Y % 4294967296 = Y0 at *
 generalize L / 4294967296 = L1 at *
 generalize L % 4294967296 = L0 at *
 have n0 : ¬ (Y1 : Int) = 0 := by omega
 have G1 : Guess 4294967296 U L1 Y1 Y0 (U / Y1) (U - U / Y1 * Y1) := guess_start (by omega) l1
 have e8 : (U : Int) / ↑Y1 = ((U / Y1 : Nat) : Int) := (Int.natCast_ediv U Y1).symm
 have a1 : U / Y1 * Y1 ≤ U := Nat.div_mul_le_self U Y1
 have r1 : U - U / Y1 * Y1 < 4294967296 := Nat.lt_trans (rest_lt U Y1 (by omega)) y1'
 have q1 := guess_small G1 y1 y1' y0 (by have := HYe.out; omega)
 generalize hQ : U / Y1 = Q at *
 clear hQ
 have e9 : IntKind.u64.wrap (↑Q * ↑Y1) = ((Q * Y1 : Nat) : Int) := by rw [mulN]; exact wrapN _ (by omega)
 have e10 : IntKind.u64.wrap ((U : Int) - ((Q * Y1 : Nat) : Int)) = ((U - Q * Y1 : Nat) : Int) := by rw [wrapU]; omega
 generalize hA : Q * Y1 = A at *
 generalize hR : U - A = R at *
 clear hA hR a1
 obtain ⟨Q1, hQ1⟩ : ∃ Q1, Q1 = (U * 4294967296 + L1) / (Y1 * 4294967296 + Y0) := ⟨_, rfl⟩
 have HQ1 : Hid (Q1 = (U * 4294967296 + L1) / (Y1 * 4294967296 + Y0)) := hQ1
 clear hQ1
 have hUn : U < Y1 * 4294967296 + Y0 := by have := HYe.out; omega
 have HG := G1
 clear G1
 go_upto_block 0 with fail
 go_cut [15, 16] (fun q r wx => wx = w' ∧ q = .int .u64 ↑Q1)
 case first =>
   go_wp2_with fail
   go_loop [15, 16] (fun a b => ∃ q r : Nat, a = .int .u64 q ∧ b = .int .u64 r ∧ Guess 4294967296 U L1 Y1 Y0 q r ∧ r < 4294967296) (fun a _ => (intOf a).toNat)
   case atStart => exact ⟨Q, R, rfl, rfl, HG, r1⟩
   case round =>
     obtain ⟨q, r, rfl, rfl, hg, hr⟩ := hrel
     have hqs := guess_small hg y1 y1' y0 hUn
     have HUn : Hid (U < Y1 * 4294967296 + Y0) := hUn
     by_cases hq : 4294967296 ≤ q
     · obtain ⟨hp1, hg'⟩ := guess_step hg hUn l1 (Or.inl hq)
       have hqI : (4294967296 : Int) ≤ (q : Int) := by omega
       clear hUn hq hg HG
       have i1 : (1 : Int) ≤ (q : Int) := by omega
       have i2 : (q : Int) ≤ 4294967298 := by omega
       have i3 : (r : Int) < 4294967296 := by omega
       have i4 : (Y1 : Int) < 4294967296 := by omega
       clear hqs hr y1' hp1
       by_cases hb : (4294967296 : Int) ≤ (r : Int) + (Y1 : Int)
       · go_wp2
         go_meet
         case rel => exact ⟨rfl, congrArg (Value.int .u64) (by have := guess_break hg' HUn.out y0 (by omega); rw [HQ1.out, ← this]; omega)⟩
       · go_wp2
         go_round
         case rel => exact ⟨q - 1, r + Y1, congrArg (Value.int .u64) (by omega), congrArg (Value.int .u64) (by omega), hg', by omega⟩
         case measure => simp [intOf]; omega
     · have hB : q * Y0 ≤ 4294967295 * 4294967295 := Nat.mul_le_mul (by omega) (by omega)
       have e20 : IntKind.u64.wrap (↑q * ↑Y0) = ((q * Y0 : Nat) : Int) := by rw [mulN]; exact wrapN _ (by omega)
       have hstep := guess_step hg hUn l1
       have hend := guess_end hg
       generalize q * Y0 = B at *
       have HS : Hid (4294967296 ≤ q ∨ r * 4294967296 + L1 < B → 0 < q ∧ Guess 4294967296 U L1 Y1 Y0 (q - 1) (r + Y1)) := hstep
       have HE : Hid (B ≤ r * 4294967296 + L1 → q = (U * 4294967296 + L1) / (Y1 * 4294967296 + Y0)) := hend
       have hqI : ¬ (4294967296 : Int) ≤ (q : Int) := by omega
       have i3 : (r : Int) < 4294967296 := by omega
       have i4 : (Y1 : Int) < 4294967296 := by omega
       have i5 : (L1 : Int) < 4294967296 := by omega
       have HB : Hid (B ≤ 4294967295 * 4294967295) := hB
       clear hUn hq hg HG hstep hend hqs hr y1' hB l1
       by_cases ht : (4294967296 : Int) * (r : Int) + (L1 : Int) < (B : Int)
       · obtain ⟨hp1, hg'⟩ := HS.out (Or.inr (by omega))
         have i1 : (1 : Int) ≤ (q : Int) := by omega
         clear hp1
         by_cases hb : (4294967296 : Int) ≤ (r : Int) + (Y1 : Int)
         · go_wp2
           go_meet
           case rel => exact ⟨rfl, congrArg (Value.int .u64) (by have := guess_break hg' HUn.out y0 (by omega); rw [HQ1.out, ← this]; omega)⟩
         · go_wp2
           go_round
           case rel => exact ⟨q - 1, r + Y1, congrArg (Value.int .u64) (by omega), congrArg (Value.int .u64) (by omega), hg', by omega⟩
           case measure => simp [intOf]; omega
       · go_wp2
         go_meet
         case rel => exact ⟨rfl, congrArg (Value.int .u64) (by have := HE.out (by omega); rw [HQ1.out, ← this])⟩
 case rest =>
   obtain ⟨rfl, rfl⟩ := hcut
   clear HG r1 q1 e9 e10 e8
   have hQ1 := HQ1.out
   have hYe := HYe.out
   rw [← hYe] at hQ1
   have hdm := Nat.div_add_mod (U * 4294967296 + L1) Y
   have hV : (U * 4294967296 + L1) % Y < Y := Nat.mod_lt _ (by omega)
   have hQb : Q1 < 4294967296 := by rw [hQ1, Nat.div_lt_iff_lt_mul (by omega)]; omega
   rw [← hQ1] at hdm
   obtain ⟨V, hVe⟩ : ∃ V, V = (U * 4294967296 + L1) % Y := ⟨_, rfl⟩
   rw [← hVe] at hdm hV
   have HVe : Hid (V = (U * 4294967296 + L1) % Y) := hVe
   have HQ : Hid (Q1 = (U * 4294967296 + L1) / Y) := hQ1
   have e11 : IntKind.u64.wrap (IntKind.u64.wrap (IntKind.u64.wrap (↑U * 4294967296) + ↑L1) - IntKind.u64.wrap (↑Q1 * ↑Y)) = (V : Int) := by
     rw [mulN Q1 Y]
     rw [Nat.mul_comm Y Q1] at hdm
     generalize Q1 * Y = A at *
     simp only [wrapU]
     omega
   clear hVe hQ1 hdm
   have G1 : Guess 4294967296 V L0 Y1 Y0 (V / Y1) (V - V / Y1 * Y1) := guess_start (by omega) l0
   have e8 : (V : Int) / ↑Y1 = ((V / Y1 : Nat) : Int) := (Int.natCast_ediv V Y1).symm
   have a1 : V / Y1 * Y1 ≤ V := Nat.div_mul_le_self V Y1
   have r1 : V - V / Y1 * Y1 < 4294967296 := Nat.lt_trans (rest_lt V Y1 (by omega)) y1'
   have q1 := guess_small G1 y1 y1' y0 (by omega)
   generalize hQ : V / Y1 = P at *
   clear hQ
   have e9 : IntKind.u64.wrap (↑P * ↑Y1) = ((P * Y1 : Nat) : Int) := by rw [mulN]; exact wrapN _ (by omega)
   have e10 : IntKind.u64.wrap ((V : Int) - ((P * Y1 : Nat) : Int)) = ((V - P * Y1 : Nat) : Int) := by rw [wrapU]; omega
   generalize hA : P * Y1 = A at *
   generalize hR : V - A = R2 at *
   clear hA hR a1 hUn hYe
   obtain ⟨Q0, hQ0⟩ : ∃ Q0, Q0 = (V * 4294967296 + L0) / (Y1 * 4294967296 + Y0) := ⟨_, rfl⟩
   have HQ0 : Hid (Q0 = (V * 4294967296 + L0) / (Y1 * 4294967296 + Y0)) := hQ0
   clear hQ0
   have hUn : V < Y1 * 4294967296 + Y0 := by have := HYe.out; omega
   have HG := G1
   clear G1
   go_upto_block 2 with fail
   go_cut [18, 16] (fun q r wx => wx = wc ∧ q = .int .u64 ↑Q0)
   case first =>
     go_wp2_with fail
     go_loop [18, 16] (fun a b => ∃ q r : Nat, a = .int .u64 q ∧ b = .int .u64 r ∧ Guess 4294967296 V L0 Y1 Y0 q r ∧ r < 4294967296) (fun a _ => (intOf a).toNat)
     case atStart => exact ⟨P, R2, rfl, rfl, HG, r1⟩
     case round =>
       obtain ⟨q, r, rfl, rfl, hg, hr⟩ := hrel
       have hqs := guess_small hg y1 y1' y0 hUn
       have HUn : Hid (V < Y1 * 4294967296 + Y0) := hUn
       by_cases hq : 4294967296 ≤ q
       · obtain ⟨hp1, hg'⟩ := guess_step hg hUn l0 (Or.inl hq)
         have hqI : (4294967296 : Int) ≤ (q : Int) := by omega
         clear hUn hq hg HG
         have i1 : (1 : Int) ≤ (q : Int) := by omega
         have i2 : (q : Int) ≤ 4294967298 := by omega
         have i3 : (r : Int) < 4294967296 := by omega
         have i4 : (Y1 : Int) < 4294967296 := by omega
         clear hqs hr y1' hp1
         by_cases hb : (4294967296 : Int) ≤ (r : Int) + (Y1 : Int)
         · go_wp2
           go_meet
           case rel => exact ⟨rfl, congrArg (Value.int .u64) (by have := guess_break hg' HUn.out y0 (by omega); rw [HQ0.out, ← this]; omega)⟩
         · go_wp2
           go_round
           case rel => exact ⟨q - 1, r + Y1, congrArg (Value.int .u64) (by omega), congrArg (Value.int .u64) (by omega), hg', by omega⟩
           case measure => simp [intOf]; omega
       · have hB : q * Y0 ≤ 4294967295 * 4294967295 := Nat.mul_le_mul (by omega) (by omega)
         have e20 : IntKind.u64.wrap (↑q * ↑Y0) = ((q * Y0 : Nat) : Int) := by rw [mulN]; exact wrapN _ (by omega)
         have hstep := guess_step hg hUn l0
         have hend := guess_end hg
         generalize q * Y0 = B at *
         have HS : Hid (4294967296 ≤ q ∨ r * 4294967296 + L0 < B → 0 < q ∧ Guess 4294967296 V L0 Y1 Y0 (q - 1) (r + Y1)) := hstep
         have HE : Hid (B ≤ r * 4294967296 + L0 → q = (V * 4294967296 + L0) / (Y1 * 4294967296 + Y0)) := hend
         have hqI : ¬ (4294967296 : Int) ≤ (q : Int) := by omega
         have i3 : (r : Int) < 4294967296 := by omega
         have i4 : (Y1 : Int) < 4294967296 := by omega
         have i5 : (L0 : Int) < 4294967296 := by omega
         have HB : Hid (B ≤ 4294967295 * 4294967295) := hB
         clear hUn hq hg HG hstep hend hqs hr y1' hB l0
         by_cases ht : (4294967296 : Int) * (r : Int) + (L0 : Int) < (B : Int)
         · obtain ⟨hp1, hg'⟩ := HS.out (Or.inr (by omega))
           have i1 : (1 : Int) ≤ (q : Int) := by omega
           clear hp1
           by_cases hb : (4294967296 : Int) ≤ (r : Int) + (Y1 : Int)
           · go_wp2
             go_meet
             case rel => exact ⟨rfl, congrArg (Value.int .u64) (by have := guess_break hg' HUn.out y0 (by omega); rw [HQ0.out, ← this]; omega)⟩
           · go_wp2
             go_round
             case rel => exact ⟨q - 1, r + Y1, congrArg (Value.int .u64) (by omega), congrArg (Value.int .u64) (by omega), hg', by omega⟩
             case measure => simp [intOf]; omega
         · go_wp2
           go_meet
           case rel => exact ⟨rfl, congrArg (Value.int .u64) (by have := HE.out (by omega); rw [HQ0.out, ← this])⟩
   case rest =>
     obtain ⟨rfl, rfl⟩ := hcut
     clear HG r1 q1 e9 e10 e8 e11
     have hQ0 := HQ0.out
     have hYe := HYe.out
     rw [← hYe] at hQ0
     have hdm := Nat.div_add_mod (V * 4294967296 + L0) Y
     have hT : (V * 4294967296 + L0) % Y < Y := Nat.mod_lt _ (by omega)
     have hQb0 : Q0 < 4294967296 := by rw [hQ0, Nat.div_lt_iff_lt_mul (by omega)]; omega
     rw [← hQ0] at hdm
     have done := div_done 4294967296 (hi * 18446744073709551616 + lo) y (2 ^ s) U L1 L0 hp (by omega) (by rw [HN.out]; have := HLe.out; omega)
     rw [← HY.out, ← HQ.out, ← HVe.out, ← hQ0] at done
     obtain ⟨T, hTe⟩ : ∃ T, T = (V * 4294967296 + L0) % Y := ⟨_, rfl⟩
     rw [← hTe] at hdm hT done
     have e21 : IntKind.u64.wrap (IntKind.u64.wrap (IntKind.u64.wrap (↑V * 4294967296) + ↑L0) - IntKind.u64.wrap (↑Q0 * ↑Y)) = (T : Int) := by
       rw [mulN Q0 Y]
       rw [Nat.mul_comm Y Q0] at hdm
       generalize Q0 * Y = A at *
       simp only [wrapU]
       omega
     have HD : Hid (Q1 * 4294967296 + Q0 = (hi * 18446744073709551616 + lo) / y ∧ T / 2 ^ s = (hi * 18446744073709551616 + lo) % y) := done
     clear hTe hQ0 hdm done hUn hYe hT
     go_wp2
     go_ret2
     refine ⟨ret_ii ?_ ?_, Ext.refl _⟩
     · rw [← HD.out.1]; simp
     · rw [← HD.out.2]; simp
theorem div64_zero (lo y : Nat) (h2 : lo < 18446744073709551616) (h3 : 0 < y) (w : World) :
   Calls Tryz.prog 145 #[.int .u64 0, .int .u64 lo, .int .u64 y] w fun e w' => e = .returned (.tuple #[.int .u64 ((lo / y : Nat) : Int), .int .u64 ((lo % y : Nat) : Int)]) ∧ Ext w w' := by
 have g1 : ((y : Int) == 0) = false := by simp; omega
 have g3 : ¬ (y : Int) ≤ 0 := by omega
 have g4 : ¬ (y : Int) = 0 := by omega
 go_enter Tryz.func145, Tryz.ntmps145
 go_wp2
 go_quiet (fail)
 go_wp2
 go_ret2
 exact ⟨ret_ii (by rw [← Int.natCast_ediv]; exact wrapN _ (Nat.lt_of_le_of_lt (Nat.div_le_self _ _) h2)) (by simp), (Ext.refl _).drewN _⟩
theorem div64_any (hi lo y : Nat) (h1 : hi < y) (h2 : lo < 18446744073709551616) (h3 : y < 18446744073709551616) (w : World) :
   Calls Tryz.prog 145 #[.int .u64 hi, .int .u64 lo, .int .u64 y] w fun e w' => e = .returned (.tuple #[.int .u64 (((hi * 18446744073709551616 + lo) / y : Nat) : Int), .int .u64 (((hi * 18446744073709551616 + lo) % y : Nat) : Int)]) ∧ Ext w w' := by
 rcases Nat.eq_zero_or_pos hi with rfl | h
 · rw [Nat.zero_mul, Nat.zero_add]
   exact div64_zero lo y h2 h1 w
 · exact div64_pos hi lo y h1 h2 h3 h w

open Go.RowKit
set_option maxHeartbeats 1000000

/-- The nearest whole number to P by d, of two the greater one. -/
def nearQ (P d : Nat) : Nat := P / d + (if d ≤ 2 * (P % d) then 1 else 0)
/-- A size with a sign, if that is a number. -/
def sgnB (n : Nat) : Bool := decide (n ≤ 9223372036854775807)
def sgnV (neg : Bool) (n : Nat) : Int := if sgnB n then (if neg then -(n : Int) else n) else 0
theorem sgnB_no {n : Nat} (h : 9223372036854775807 < n) : sgnB n = false := by unfold sgnB; simp; omega
theorem sgnB_yes {n : Nat} (h : n ≤ 9223372036854775807) : sgnB n = true := by unfold sgnB; simp; omega
theorem sgnV_no {n : Nat} (neg : Bool) (h : 9223372036854775807 < n) : sgnV neg n = 0 := by unfold sgnV; rw [sgnB_no h]; rfl
theorem sgnV_yes {n : Nat} (neg : Bool) (h : n ≤ 9223372036854775807) : sgnV neg n = if neg then -(n : Int) else n := by unfold sgnV; rw [sgnB_yes h]; rfl

open Go.RowKit
set_option maxHeartbeats 1000000

/-- Block b holds the word x. -/
def Pair (wr : World) (b : Nat) (x : Int) : Prop :=
 b < wr.heap.size ∧ wr.cell? ⟨b, 0, none⟩ = some (.int .u64 (uhi x)) ∧ wr.cell? ⟨b, 1, none⟩ = some (.int .u64 (loOf x)) ∧ wr.frozen? ⟨b, 0, none⟩ = false ∧ wr.frozen? ⟨b, 1, none⟩ = false
theorem Pair.ext {w w' : World} {b : Nat} {x : Int} (h : Pair w b x) (e : Ext w w') : Pair w' b x := by
 obtain ⟨z, c0, c1, f0, f1⟩ := h
 exact ⟨Nat.lt_of_lt_of_le z e.size, (e.cell.1 b 0 z).trans c0, (e.cell.1 b 1 z).trans c1, (e.cell.2 b 0 z).trans f0, (e.cell.2 b 1 z).trans f1⟩
theorem Pair.set {w : World} {b : Nat} {x : Int} (h : Pair w b x) (y : Int) : Pair ((w.setCell ⟨b, 0, none⟩ (.int .u64 (uhi y))).setCell ⟨b, 1, none⟩ (.int .u64 (loOf y))) b y := by
 obtain ⟨z, c0, c1, f0, f1⟩ := h
 have c0' := World.cell?_setCell_same w ⟨b, 0, none⟩ (.int .u64 (uhi y)) (by rw [c0])
 have c1' : (w.setCell ⟨b, 0, none⟩ (.int .u64 (uhi y))).cell? ⟨b, 1, none⟩ = some (.int .u64 (loOf x)) := by
   rw [World.cell?_setCell_other _ _ _ _ (by simp)]; exact c1
 refine ⟨by simpa [World.setCell] using z, ?_, ?_, ?_, ?_⟩
 · rw [World.cell?_setCell_other _ _ _ _ (by simp)]; exact c0'
 · exact World.cell?_setCell_same _ ⟨b, 1, none⟩ _ (by rw [c1'])
 · rw [World.frozen?_setCell, World.frozen?_setCell]; exact f0
 · rw [World.frozen?_setCell, World.frozen?_setCell]; exact f1
theorem Pair.far {w : World} {b c : Nat} {x : Int} (h : Pair w b x) (hc : c ≠ b) (o : Nat) (v : Value) : Pair (w.setCell ⟨c, o, none⟩ v) b x := by
 obtain ⟨z, c0, c1, f0, f1⟩ := h
 refine ⟨by simpa [World.setCell] using z, ?_, ?_, ?_, ?_⟩
 · rw [World.cell?_setCell_far _ _ _ _ hc]; exact c0
 · rw [World.cell?_setCell_far _ _ _ _ hc]; exact c1
 · rw [World.frozen?_setCell]; exact f0
 · rw [World.frozen?_setCell]; exact f1

theorem or_even (t l : Nat) (hl : l < 2) (ht : 2 * t < 18446744073709551616) : bits .or .u64 ((2 * t : Nat) : Int) (l : Int) = ((2 * t + l : Nat) : Int) := by
 rw [bits_or_u64_nat _ _ ht (by omega)]
 have := Nat.two_pow_add_eq_or_of_lt (i := 1) (b := l) (by omega) t
 rw [show (2 : Nat) ^ 1 = 2 from rfl] at this
 rw [← this]
theorem up_hi (x : Int) : bits .or .u64 (IntKind.u64.wrap (uhi x * 2)) (loOf x / 9223372036854775808) = uhi (x * 2) := by
 obtain ⟨h, hh⟩ := Int.eq_ofNat_of_zero_le (uhi_bd x).1
 obtain ⟨l, hl⟩ := Int.eq_ofNat_of_zero_le (lo_bd x).1
 have b1 := (uhi_bd x).2
 have b2 := (lo_bd x).2
 have e1 : IntKind.u64.wrap (uhi x * 2) = ((2 * (h % 9223372036854775808) : Nat) : Int) := by rw [hh, wrapU]; omega
 have e2 : loOf x / 9223372036854775808 = ((l / 9223372036854775808 : Nat) : Int) := by rw [hl]; omega
 rw [e1, e2, or_even _ _ (by omega) (by omega)]
 have e3 : uhi (x * 2) = (uhi x * 2 + loOf x / 9223372036854775808) % 18446744073709551616 := by unfold uhi loOf; omega
 rw [e3, hh, hl]
 omega
theorem up_lo (x : Int) : IntKind.u64.wrap (loOf x * 2) = loOf (x * 2) := by rw [wrapU]; unfold loOf; omega
theorem up_w (x : Int) (w : World) : Calls Tryz.prog 86 #[.agg #[.int .u64 (uhi x), .int .u64 (loOf x)]] w fun e w' => e = .returned (.agg #[.int .u64 (uhi (x * 2)), .int .u64 (loOf (x * 2))]) ∧ Ext w w' := by
 have e1 := up_hi x
 have e2 := up_lo x
 obtain ⟨a1, a2⟩ := uhi_bd x; obtain ⟨b1, b2⟩ := lo_bd x
 generalize uhi (x * 2) = H at *
 generalize loOf (x * 2) = L at *
 go_enter Tryz.func86, Tryz.ntmps86
 go_wp2
 simp [bodyPost, results, Tryz.results86, go_sem]
 exact (by repeat (first | exact Ext.refl _ | apply Ext.drew | apply Ext.drewN | apply Ext.alloc | refine Ext.setCell ?_ (by simp) _))

/-- Which is greater. -/
def cmpI (x y : Int) : Int := if x < y then -1 else if y < x then 1 else 0
theorem cmp_w (x y : Int) (hx : 0 ≤ x) (hx' : x < 340282366920938463463374607431768211456) (hy : 0 ≤ y) (hy' : y < 340282366920938463463374607431768211456) (w : World) :
   Calls Tryz.prog 92 #[.agg #[.int .u64 (uhi x), .int .u64 (loOf x)], .agg #[.int .u64 (uhi y), .int .u64 (loOf y)]] w fun e w' => e = .returned (.int .i64 (cmpI x y)) ∧ Ext w w' := by
 have hX : x = uhi x * 18446744073709551616 + loOf x := by unfold uhi loOf; omega
 have hY : y = uhi y * 18446744073709551616 + loOf y := by unfold uhi loOf; omega
 have hc : cmpI x y = if uhi x < uhi y then -1 else if uhi y < uhi x then 1 else if loOf x < loOf y then -1 else if loOf y < loOf x then 1 else 0 := by
   have b1 := uhi_bd x; have b2 := lo_bd x; have b3 := uhi_bd y; have b4 := lo_bd y
   unfold U64 at b1 b2 b3 b4
   unfold cmpI
   generalize uhi x = xh at *
   generalize loOf x = xl at *
   generalize uhi y = yh at *
   generalize loOf y = yl at *
   repeat' split
   all_goals omega
 rw [hc]
 clear hX hY hc hx hx' hy hy'
 generalize uhi x = xh at *
 generalize loOf x = xl at *
 generalize uhi y = yh at *
 generalize loOf y = yl at *
 by_cases g1 : xh < yh
 · have n1 : (xh != yh) = true := by simp; omega
   go_enter Tryz.func92, Tryz.ntmps92
   go_wp2
   go_ret
   exact ⟨rfl, (Ext.refl _).alloc _ |>.alloc _⟩
 by_cases g2 : yh < xh
 · have n1 : (xh != yh) = true := by simp; omega
   go_enter Tryz.func92, Tryz.ntmps92
   go_wp2
   go_ret
   exact ⟨rfl, (Ext.refl _).alloc _ |>.alloc _⟩
 have g3 : yh = xh := by omega
 subst g3
 by_cases g4 : xl < yl
 · go_enter Tryz.func92, Tryz.ntmps92
   go_wp2
   go_ret
   exact ⟨rfl, (Ext.refl _).alloc _ |>.alloc _⟩
 by_cases g5 : yl < xl
 · go_enter Tryz.func92, Tryz.ntmps92
   go_wp2
   go_ret
   exact ⟨rfl, (Ext.refl _).alloc _ |>.alloc _⟩
 · go_enter Tryz.func92, Tryz.ntmps92
   go_wp2
   go_ret
   exact ⟨rfl, (Ext.refl _).alloc _ |>.alloc _⟩
theorem and_one (m : Nat) (h : m < 18446744073709551616) : bits .and .u64 (m : Int) 1 = ((m % 2 : Nat) : Int) := by
 have := bits_and_u64_nat m 1 h (by omega)
 rw [Nat.and_one_is_mod] at this
 exact this
theorem half_step (b j : Nat) : b / 2 ^ j = 2 * (b / 2 ^ (j + 1)) + b / 2 ^ j % 2 := by
 rw [Nat.pow_succ, ← Nat.div_div_eq_div_mul]
 omega
theorem prod_no (a b j : Nat) (h : b / 2 ^ j % 2 = 0) : a * (b / 2 ^ j) = a * (b / 2 ^ (j + 1)) * 2 := by
 have e := half_step b j
 rw [h] at e
 rw [e, Nat.add_zero, Nat.mul_comm 2, Nat.mul_assoc]
theorem prod_yes (a b j : Nat) (h : b / 2 ^ j % 2 = 1) : a * (b / 2 ^ j) = a * (b / 2 ^ (j + 1)) * 2 + a := by
 have e := half_step b j
 rw [h] at e
 rw [e, Nat.mul_add, Nat.mul_one, Nat.mul_comm 2, Nat.mul_assoc]
theorem product_any (a b : Nat) (ha : a < 18446744073709551616) (hb : b < 18446744073709551616) (w : World) :
   Calls Tryz.prog 48 #[.int .u64 a, .int .u64 b] w fun e w' => e = .returned (.agg #[.int .u64 (uhi ((a * b : Nat) : Int)), .int .u64 (loOf ((a * b : Nat) : Int))]) ∧ Ext w w' := by
 have u0 : uhi 0 = 0 := by decide
 have l0 : loOf 0 = 0 := by decide
 go_enter Tryz.func48, Tryz.ntmps48
 go_wp2
 go_loopw [6] (fun i wr => ∃ k : Nat, k ≤ 64 ∧ i = .int .i64 ((k : Int) - 1) ∧ Ext w wr ∧ Pair wr (w.heap.size + 1) ((a * (b / 2 ^ k) : Nat) : Int) ∧ Pair wr w.heap.size 0) (fun i _ => (intOf i + 1).toNat)
 case atStart =>
   refine ⟨64, Nat.le_refl _, rfl, ?_, ?_, ?_⟩
   · exact ((Ext.refl _).alloc _).alloc _
   · have : b / 2 ^ 64 = 0 := Nat.div_eq_of_lt hb
     rw [this, Nat.mul_zero]
     simp [Pair, u0, l0, go_sem]
   · simp [Pair, u0, l0, go_sem, World.cell?_alloc_past]
 case round =>
   obtain ⟨k, hk, rfl, hE, hp, hq⟩ := hrel
   rcases Nat.eq_zero_or_pos k with rfl | hk0
   · obtain ⟨z, c0, c1, f0, f1⟩ := hp
     obtain ⟨z', c0', c1', f0', f1'⟩ := hq
     rw [Nat.pow_zero, Nat.div_one] at c0 c1
     go_wp2
     simp [bodyPost, results, Tryz.results48, go_sem, *]
     refine Ext.setCell (Ext.setCell hE ?_ _) ?_ _ <;> simp
   · obtain ⟨j, rfl⟩ : ∃ j, k = j + 1 := ⟨k - 1, by omega⟩
     have ej : (((j + 1 : Nat) : Int) - 1) = (j : Int) := by omega
     rw [ej]
     clear ej
     have eb : bits .and .u64 ((b : Int) / 2 ^ j) 1 = ((b / 2 ^ j % 2 : Nat) : Int) := by
       have : (b : Int) / 2 ^ j = ((b / 2 ^ j : Nat) : Int) := by simp
       rw [this]
       exact and_one _ (Nat.lt_of_le_of_lt (Nat.div_le_self _ _) hb)
     have hj : j < 64 := by omega
     have hjI : (j : Int) < 64 := by omega
     clear hk hk0
     have cU := fun W => up_w ((a * (b / 2 ^ (j + 1)) : Nat) : Int) W
     have cP := fun W => plusW_w (((a * (b / 2 ^ (j + 1)) : Nat) : Int) * 2) (a : Int) W
     have ha0 : uhi (a : Int) = 0 := by unfold uhi; omega
     have ha1 : loOf (a : Int) = a := by unfold loOf; omega
     rw [ha0, ha1] at cP
     obtain ⟨z, c0, c1, f0, f1⟩ := hp
     rcases Nat.mod_two_eq_zero_or_one (b / 2 ^ j) with hbit | hbit
     · have HX : Hid (((a * (b / 2 ^ j) : Nat) : Int) = ((a * (b / 2 ^ (j + 1)) : Nat) : Int) * 2) := by
         show ((a * (b / 2 ^ j) : Nat) : Int) = _
         rw [prod_no a b j hbit]; omega
       rw [hbit] at eb
       clear hbit cP ha0 ha1
       generalize ((a * (b / 2 ^ (j + 1)) : Nat) : Int) = x at *
       have hp0 : Pair wr (w.heap.size + 1) x := ⟨z, c0, c1, f0, f1⟩
       go_wp2_with fail
       refine (cU _).mono ?_
       rintro e w1 ⟨rfl, E1⟩
       have hp1 := hp0.ext E1
       have HP1 : Hid (Pair w1 (w.heap.size + 1) x) := hp1
       have hq1 := hq.ext E1
       obtain ⟨z1, d0, d1, g0, g1⟩ := hp1
       have hE1 := hE.trans E1
       clear c0 c1 f0 f1 hp0 z hq
       go_wp2
       go_roundw
       case rel => exact ⟨j, by omega, rfl, (hE1.setCell (by simp) _).setCell (by simp) _, by rw [HX.out]; exact HP1.out.set _, (hq1.far (by omega) _ _).far (by omega) _ _⟩
       case measure => simp [intOf]
     · have HX : Hid (((a * (b / 2 ^ j) : Nat) : Int) = ((a * (b / 2 ^ (j + 1)) : Nat) : Int) * 2 + a) := by
         show ((a * (b / 2 ^ j) : Nat) : Int) = _
         rw [prod_yes a b j hbit]; omega
       rw [hbit] at eb
       clear hbit ha0 ha1
       generalize ((a * (b / 2 ^ (j + 1)) : Nat) : Int) = x at *
       have hp0 : Pair wr (w.heap.size + 1) x := ⟨z, c0, c1, f0, f1⟩
       go_wp2_with fail
       refine (cU _).mono ?_
       rintro e w1 ⟨rfl, E1⟩
       have hp1 := hp0.ext E1
       have HP1 : Hid (Pair w1 (w.heap.size + 1) x) := hp1
       have hq1 := hq.ext E1
       obtain ⟨z1, d0, d1, g0, g1⟩ := hp1
       have hE1 := hE.trans E1
       clear c0 c1 f0 f1 hp0 z hq
       go_wp2_with fail
       refine (cP _).mono ?_
       rintro e w2 ⟨rfl, E2⟩
       have hp2 := (HP1.out.set (x * 2)).ext E2
       have HP2 : Hid (Pair w2 (w.heap.size + 1) (x * 2)) := hp2
       have hq2 := ((hq1.far (c := w.heap.size + 1) (by omega) 0 (.int .u64 (uhi (x * 2)))).far (c := w.heap.size + 1) (by omega) 1 (.int .u64 (loOf (x * 2)))).ext E2
       have hE2 := ((hE1.setCell (p := ⟨w.heap.size + 1, 0, none⟩) (by simp) (.int .u64 (uhi (x * 2)))).setCell (p := ⟨w.heap.size + 1, 1, none⟩) (by simp) (.int .u64 (loOf (x * 2)))).trans E2
       obtain ⟨z2, k0, k1, m0, m1⟩ := hp2
       clear d0 d1 g0 g1 z1 hq1
       go_wp2
       go_roundw
       case rel => exact ⟨j, by omega, rfl, (hE2.setCell (by simp) _).setCell (by simp) _, by rw [HX.out]; exact HP2.out.set _, (hq2.far (by omega) _ _).far (by omega) _ _⟩
       case measure => simp [intOf]

open Go.RowKit
set_option maxHeartbeats 1000000

theorem rsigned_w (neg : Bool) (x : Nat) (hx : x < 340282366920938463463374607431768211456) (w : World) :
   Calls Tryz.prog 84 #[.bool neg, .agg #[.int .u64 (uhi x), .int .u64 (loOf x)]] w fun e w' => e = .returned (.tuple #[.int .i64 (sgnV neg x), .bool (sgnB x)]) ∧ Ext w w' := by
 obtain ⟨u1, u2⟩ := uhi_bd x; obtain ⟨u3, u4⟩ := lo_bd x
 have hX : (x : Int) = uhi x * 18446744073709551616 + loOf x := by unfold uhi loOf; omega
 have HB1 : Hid (0 < uhi x → 9223372036854775807 < x) := by show 0 < uhi x → _; intro h; omega
 have HB2 : Hid (9223372036854775807 < loOf x → 9223372036854775807 < x) := by show 9223372036854775807 < loOf x → _; intro h; omega
 have HB3 : Hid (¬ 0 < uhi x → ¬ 9223372036854775807 < loOf x → x ≤ 9223372036854775807 ∧ loOf x = x) := by show ¬ 0 < uhi x → _; intro h1 h2; omega
 clear hX hx
 generalize hh : uhi x = h at *
 generalize hl : loOf x = l at *
 clear hh hl
 by_cases g1 : 0 < h
 · have H1 : Hid (sgnB x = false) := sgnB_no (HB1.out g1)
   have H2 : Hid (sgnV neg x = 0) := sgnV_no neg (HB1.out g1)
   go_enter Tryz.func84, Tryz.ntmps84
   go_wp2
   go_ret2
   exact ⟨ret_ib H2.out.symm H1.out.symm, (Ext.refl _).alloc _⟩
 by_cases g2 : 9223372036854775807 < l
 · have H1 : Hid (sgnB x = false) := sgnB_no (HB2.out g2)
   have H2 : Hid (sgnV neg x = 0) := sgnV_no neg (HB2.out g2)
   go_enter Tryz.func84, Tryz.ntmps84
   go_wp2
   go_ret2
   exact ⟨ret_ib H2.out.symm H1.out.symm, (Ext.refl _).alloc _⟩
 · obtain ⟨k1, k2⟩ := HB3.out g1 g2
   have H1 : Hid (sgnB x = true) := sgnB_yes k1
   have H2 : Hid (sgnV neg x = if neg then -l else l) := by show sgnV neg x = _; rw [sgnV_yes neg k1, k2]
   have w1 : wrap64 l = l := by unfold wrap64; omega
   clear k1 k2
   cases neg
   all_goals
     go_enter Tryz.func84, Tryz.ntmps84
     go_wp2
     go_ret2
     exact ⟨ret_ib (by rw [H2.out]; rfl) H1.out.symm, (Ext.refl _).alloc _⟩
end Go.Proofs.YtalejeknigbhjaaGreatDoor
