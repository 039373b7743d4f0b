/-
 How numbers are written, as lists: noughts at the end, and that what is written says the number. Plain mathematics.
 The contract of the document's Print.
 Plain arithmetic of the long division by halves of 32 bits (math/bits.Div64): no program in sight.
 Contracts of math/bits: Mul64, Len64, LeadingZeros64, walked over the library's own text.
-/
import Derived.Test.YtalejeknigbhjaaGreatDoorY4
import Derived.Test.YtalejeknigbhjaaGreatDoorY1
import Derived.Lib.BitFns
import Derived.Test.YtalejeknigbhjaaGreatDoorRows
import Derived.Lib.Mul64
import Derived.Laws.Bits64b
import Derived.Deep.Light
namespace Go.Proofs.YtalejeknigbhjaaGreatDoor
open Go.RowKit

theorem trim_no (l : List UInt8) : Lib.trimRightB (l ++ [48]) 48 = Lib.trimRightB l 48 := by
 unfold Lib.trimRightB; simp
theorem trim_yes (l : List UInt8) (c : UInt8) (h : c ≠ 48) : Lib.trimRightB (l ++ [c]) 48 = l ++ [c] := by
 unfold Lib.trimRightB; simp [h]
theorem snoc_of (l : List UInt8) (h : l ≠ []) : ∃ r c, l = r ++ [c] := ⟨l.dropLast, l.getLast h, (List.dropLast_concat_getLast h).symm⟩
theorem trim_back (l : List UInt8) : ∃ k, l = Lib.trimRightB l 48 ++ zs k := by
 induction hn : l.length generalizing l with
 | zero => exact ⟨0, by rw [List.length_eq_zero_iff.1 hn]; rfl⟩
 | succ n ih =>
   obtain ⟨r, c, rfl⟩ := snoc_of l (fun h => by rw [h] at hn; cases hn)
   by_cases hc : c = 48
   · subst hc
     obtain ⟨k, hk⟩ := ih r (by simpa using hn)
     refine ⟨k + 1, ?_⟩
     rw [trim_no]
     conv => lhs; rw [hk]
     simp [zs, List.replicate_succ']
   · exact ⟨0, by rw [trim_yes _ _ hc]; simp [zs]⟩
/-- The four digits behind the dot. -/
def F4 (r : Nat) : List UInt8 := [UInt8.ofNat (48 + r / 1000), UInt8.ofNat (48 + r / 100 % 10), UInt8.ofNat (48 + r / 10 % 10), UInt8.ofNat (48 + r % 10)]
theorem dec_step {u : Nat} (h : ¬ u < 10) : Lib.decDigits u = Lib.decDigits (u / 10) ++ [UInt8.ofNat (48 + u % 10)] := by rw [Lib.decDigits, dif_neg h]
theorem dec_one {u : Nat} (h : u < 10) : Lib.decDigits u = [UInt8.ofNat (48 + u)] := by rw [Lib.decDigits, dif_pos h]
theorem dec_frac (r : Nat) (h : r < 10000) : Lib.decDigits (10000 + r) = 49 :: F4 r := by
 rw [dec_step (by omega), dec_step (u := (10000 + r) / 10) (by omega), dec_step (u := (10000 + r) / 10 / 10) (by omega), dec_step (u := (10000 + r) / 10 / 10 / 10) (by omega), dec_one (u := (10000 + r) / 10 / 10 / 10 / 10) (by omega)]
 unfold F4
 rw [show (10000 + r) / 10 / 10 / 10 / 10 = 1 by omega, show (10000 + r) / 10 / 10 / 10 % 10 = r / 1000 by omega, show (10000 + r) / 10 / 10 % 10 = r / 100 % 10 by omega, show (10000 + r) / 10 % 10 = r / 10 % 10 by omega, show (10000 + r) % 10 = r % 10 by omega]
 rfl
theorem frac_eq (r : Nat) (h : r < 10000) : fracL r = Lib.trimRightB (F4 r) 48 := by unfold fracL; rw [dec_frac r h]; rfl
theorem F4_val (r : Nat) (h : r < 10000) : val (F4 r) = r := by
 unfold F4 val
 simp only [List.foldl_cons, List.foldl_nil]
 rw [(dg_ofNat (d := r / 1000) (by omega)).2, (dg_ofNat (d := r / 100 % 10) (by omega)).2, (dg_ofNat (d := r / 10 % 10) (by omega)).2, (dg_ofNat (d := r % 10) (by omega)).2]
 omega
theorem frac_back (r : Nat) (h : r < 10000) : ∃ k, F4 r = fracL r ++ zs k ∧ (fracL r).length + k = 4 := by
 obtain ⟨k, hk⟩ := trim_back (F4 r)
 rw [← frac_eq r h] at hk
 refine ⟨k, hk, ?_⟩
 have := congrArg List.length hk
 simp [F4, zs] at this
 omega
theorem frac_zero : fracL 0 = [] := by rw [frac_eq 0 (by decide)]; decide
theorem frac_pos (r : Nat) (h : r < 10000) (h0 : 0 < r) : fracL r ≠ [] := by
 intro hz
 obtain ⟨k, hk, _⟩ := frac_back r h
 have := F4_val r h
 rw [hk, hz, List.nil_append, val_zs] at this
 omega

open Go.RowKit
set_option maxHeartbeats 1000000

def strSize : Value → Nat
 | .string s => s.size
 | _ => 0
theorem last_of (g : ByteArray) (h : 1 ≤ g.size) : g.data.toList = (g.extract 0 (g.size - 1)).data.toList ++ [g[g.size - 1]'(by omega)] := by
 rw [Lib.extract_data]
 have hl := size_list g
 have := List.take_succ_eq_append_getElem (l := g.data.toList) (i := g.size - 1) (by omega)
 rw [List.take_of_length_le (by omega)] at this
 exact this
theorem toNat_48 {c : UInt8} : (c.toNat : Int) = 48 ↔ c = 48 := by
 constructor
 · intro h; apply UInt8.toNat_inj.1; show c.toNat = 48; omega
 · intro h; subst h; rfl

theorem rprint_any (a : Int) (ha : I64 a) (w : World) :
   Calls Tryz.prog 87 #[.int .i64 a] w fun e w' => e = .returned (.string ⟨(printL a).toArray⟩) ∧ Ext w w' := by
 have cs := fun W => rsize_any a ha W
 obtain ⟨h1, h2⟩ := ha
 by_cases hc : canB a = false
 · have H : Hid (printL a = [110, 111, 110, 101]) := by show printL a = _; unfold printL; rw [hc]; rfl
   have c := fun W => rcan_any a W
   rw [hc] at c
   go_enter Tryz.func87, Tryz.ntmps87
   go_wp2_with fail
   refine (c _).mono ?_
   rintro e w' ⟨rfl, rfl⟩
   go_wp2_with fail
   go_ret
   exact ⟨ret_s (by rw [H.out]), Ext.refl _⟩
 · have hc : canB a = true := by simpa using hc
   have hc' : a ≠ -9223372036854775808 := by simpa [canB] using hc
   have c := fun W => rcan_any a W
   rw [hc] at c
   obtain ⟨m, hm⟩ : ∃ m : Nat, m = a.natAbs := ⟨_, rfl⟩
   have em : absI a = (m : Int) := by unfold absI; split <;> omega
   rw [em] at cs
   have hm1 : (m : Int) ≤ 9223372036854775807 := by omega
   have hm0 : (0 : Int) ≤ m := by omega
   have c1 := fun W => whole_u (m / 10000) W (by omega)
   have c2 := fun W => whole_u (10000 + m % 10000) W (by omega)
   have e1 : ((m / 10000 : Nat) : Int) = (m : Int) / 10000 := by omega
   have e2 : ((10000 + m % 10000 : Nat) : Int) = 10000 + (m : Int) % 10000 := by omega
   rw [e1] at c1
   rw [e2] at c2
   obtain ⟨q1, q2⟩ := dec_size (m / 10000) 14 (by omega)
   obtain ⟨r1, r2⟩ := dec_size (10000 + m % 10000) 4 (by omega)
   have HM : Hid (printL a = if a < 0 then 45 :: bodyL m else bodyL m) := by show printL a = _; unfold printL; rw [hc, if_pos rfl, hm]
   have HE1 : Hid (fracL (m % 10000) = [] → bodyL m = Lib.decDigits (m / 10000)) := by show _ → _; intro h; unfold bodyL; rw [if_pos h, List.append_nil]
   have HE2 : Hid (fracL (m % 10000) ≠ [] → bodyL m = Lib.decDigits (m / 10000) ++ 46 :: fracL (m % 10000)) := by show _ → _; intro h; unfold bodyL; rw [if_neg h]
   have HR : Hid (Lib.trimRightB ((⟨(Lib.decDigits (10000 + m % 10000)).toArray⟩ : ByteArray).extract 1 (⟨(Lib.decDigits (10000 + m % 10000)).toArray⟩ : ByteArray).size).data.toList 48 = fracL (m % 10000)) := by
     show _ = _; rw [ext_one]; rfl
   obtain ⟨q, hq⟩ : ∃ q : ByteArray, q = ⟨(Lib.decDigits (m / 10000)).toArray⟩ := ⟨_, rfl⟩
   obtain ⟨r, hr⟩ : ∃ r : ByteArray, r = ⟨(Lib.decDigits (10000 + m % 10000)).toArray⟩ := ⟨_, rfl⟩
   rw [← hq] at q1 q2 c1
   rw [← hr] at r1 r2 c2 HR
   have HQ : Hid (q.data.toList = Lib.decDigits (m / 10000)) := by show _ = _; rw [hq]
   have hneg : (a < 0) = (a < 0) := rfl
   clear hq hr hc hc' e1 e2 em hm hneg
   by_cases hz : m % 10000 = 0
   · have hz1 : (m : Int) % 10000 = 0 := by omega
     have HZ : Hid (bodyL m = Lib.decDigits (m / 10000)) := HE1.out (by rw [hz]; exact frac_zero)
     clear hz HE1 HE2 HR c2 r1 r2
     by_cases hn : a < 0
     all_goals
       go_enter Tryz.func87, Tryz.ntmps87
       go_wp2_with fail
       refine (c _).mono ?_
       rintro e w0 ⟨rfl, rfl⟩
       go_wp2_with fail
       refine (cs _).mono ?_
       rintro e w1 ⟨rfl, rfl⟩
       go_wp2_with fail
       refine (c1 _).mono ?_
       rintro e w2 ⟨rfl, E2⟩
       go_wp2_with fail
       go_ret
     · exact ⟨ret_s (mkL _ _ (by rw [HM.out, if_pos hn, HZ.out, app_list, HQ.out]; rfl)), E2⟩
     · exact ⟨ret_s (mkL _ _ (by rw [HM.out, if_neg (by omega), HZ.out, HQ.out])), E2⟩
   · have hz1 : (0 : Int) < (m : Int) % 10000 := by omega
     have hne := frac_pos (m % 10000) (by omega) (by omega)
     have HZ : Hid (bodyL m = Lib.decDigits (m / 10000) ++ 46 :: fracL (m % 10000)) := HE2.out hne
     have HN : Hid (fracL (m % 10000) ≠ []) := hne
     generalize fracL (m % 10000) = F at *
     clear hz HE1 HE2 hne
     go_enter Tryz.func87, Tryz.ntmps87
     go_wp2_with fail
     refine (c _).mono ?_
     rintro e w0 ⟨rfl, rfl⟩
     go_wp2_with fail
     refine (cs _).mono ?_
     rintro e w1 ⟨rfl, rfl⟩
     go_wp2_with fail
     refine (c1 _).mono ?_
     rintro e w2 ⟨rfl, E2⟩
     go_wp2_with fail
     refine (c2 _).mono ?_
     rintro e w3 ⟨rfl, E3⟩
     go_wp2_with fail
     go_loop [6] (fun x => ∃ g : ByteArray, x = .string g ∧ g.size ≤ 5 ∧ Hid (Lib.trimRightB g.data.toList 48 = F)) (fun x => strSize x)
     case atStart => exact ⟨_, rfl, by rw [ByteArray.size_extract]; omega, HR⟩
     case round =>
       obtain ⟨g, rfl, hg, HG⟩ := hrel
       have g1 : 1 ≤ g.size := by
         have hl := size_list g
         rcases Nat.eq_zero_or_pos g.size with h | h
         · exfalso; apply HN.out; rw [← HG.out, List.length_eq_zero_iff.1 (hl.trans h)]; rfl
         · exact h
       have HL : Hid (g.data.toList = (g.extract 0 (g.size - 1)).data.toList ++ [g[g.size - 1]'(by omega)]) := last_of g g1
       have el : (g.size : Int) - 1 = ((g.size - 1 : Nat) : Int) := by omega
       by_cases hl : g[g.size - 1].toNat = 48
       · have hl1 : ((g[g.size - 1].toNat : Int) == 48) = true := by simp; omega
         have HC : Hid (g[g.size - 1] = 48) := toNat_48.1 (by omega)
         clear hl
         go_wp2_with fail
         go_round
         case rel => exact ⟨_, rfl, by rw [ByteArray.size_extract]; omega, by show _ = _; rw [← HG.out, HL.out, HC.out, trim_no]⟩
         case measure => simp only [strSize]; rw [ByteArray.size_extract]; omega
       · have hl1 : ((g[g.size - 1].toNat : Int) == 48) = false := by simp; omega
         have HC : Hid (g.data.toList = F) := by show _ = _; rw [← HG.out, HL.out, trim_yes _ _ (fun h => hl (by rw [h]; rfl))]
         clear hl
         by_cases hn : a < 0
         · go_wp2_with fail
           go_ret
           exact ⟨ret_s (mkL _ _ (by rw [HM.out, if_pos hn, HZ.out, app_list, app_list, app_list, HQ.out, HC.out]; simp)), E2.trans E3⟩
         · go_wp2_with fail
           go_ret
           exact ⟨ret_s (mkL _ _ (by rw [HM.out, if_neg (by omega), HZ.out, app_list, app_list, HQ.out, HC.out]; simp)), E2.trans E3⟩


/-- What holds at each round's head of either loop: n1, n0 the dividend's upper word and next half, y1, y0 the divisor's halves, q the guess, r what it leaves of n1; K: 2^32. -/
structure Guess (K n1 n0 y1 y0 q r : Nat) : Prop where
 eq : q * y1 + r = n1
 up : r * K + n0 < q * y0 + y1 * K + y0

theorem guess_start {K n1 n0 y1 y0 : Nat} (hy : 0 < y1) (h0 : n0 < K) : Guess K n1 n0 y1 y0 (n1 / y1) (n1 - n1 / y1 * y1) := by
 have h1 : n1 / y1 * y1 ≤ n1 := Nat.div_mul_le_self n1 y1
 have h2 : n1 % y1 < y1 := Nat.mod_lt _ hy
 have h3 : n1 - n1 / y1 * y1 = n1 % y1 := by have := Nat.div_add_mod n1 y1; rw [Nat.mul_comm] at this; omega
 refine ⟨by omega, ?_⟩
 rw [h3]
 have h4 : (n1 % y1 + 1) * K ≤ y1 * K := Nat.mul_le_mul h2 (Nat.le_refl _)
 rw [Nat.add_mul, Nat.one_mul] at h4
 omega

theorem guess_lt {K n1 n0 y1 y0 q r : Nat} (g : Guess K n1 n0 y1 y0 q r) (hn : n1 < y1 * K + y0) (h0 : n0 < K) (h : K ≤ q) : r * K + n0 < q * y0 := by
 obtain ⟨e, u⟩ := g
 have hA : K * y1 ≤ q * y1 := Nat.mul_le_mul h (Nat.le_refl _)
 have hB : K * y0 ≤ q * y0 := Nat.mul_le_mul h (Nat.le_refl _)
 have hr : r + 1 ≤ y0 := by rw [Nat.mul_comm K y1] at hA; omega
 have hC : (r + 1) * K ≤ y0 * K := Nat.mul_le_mul hr (Nat.le_refl _)
 rw [Nat.add_mul, Nat.one_mul, Nat.mul_comm y0 K] at hC
 omega

/-- The test says yes: one less. -/
theorem guess_step {K n1 n0 y1 y0 q r : Nat} (g : Guess K n1 n0 y1 y0 q r) (hn : n1 < y1 * K + y0) (h0 : n0 < K)
   (h : K ≤ q ∨ r * K + n0 < q * y0) : 0 < q ∧ Guess K n1 n0 y1 y0 (q - 1) (r + y1) := by
 have hlt : r * K + n0 < q * y0 := by
   rcases h with h | h
   · exact guess_lt g hn h0 h
   · exact h
 obtain ⟨e, u⟩ := g
 have hq : 0 < q := by
   rcases Nat.eq_zero_or_pos q with rfl | h
   · simp at hlt
   · exact h
 obtain ⟨k, rfl⟩ : ∃ k, q = k + 1 := ⟨q - 1, by omega⟩
 refine ⟨hq, ?_, ?_⟩
 · simp only [Nat.add_sub_cancel]; rw [Nat.add_mul] at e; omega
 · simp only [Nat.add_sub_cancel]
   rw [Nat.add_mul, Nat.one_mul] at hlt
   rw [Nat.add_mul]
   omega

/-- The end: the guess is the quotient. -/
theorem guess_end {K n1 n0 y1 y0 q r : Nat} (g : Guess K n1 n0 y1 y0 q r) (h : q * y0 ≤ r * K + n0) :
   q = (n1 * K + n0) / (y1 * K + y0) := by
 obtain ⟨e, u⟩ := g
 have h1 : q * (y1 * K + y0) = q * y1 * K + q * y0 := by rw [Nat.mul_add, Nat.mul_assoc]
 have h2 : (q + 1) * (y1 * K + y0) = q * (y1 * K + y0) + (y1 * K + y0) := by rw [Nat.add_mul, Nat.one_mul]
 have h3 : n1 * K = q * y1 * K + r * K := by rw [← e, Nat.add_mul]
 symm
 apply Nat.div_eq_of_lt_le
 · rw [h1]; omega
 · rw [h2, h1]; omega

/-- The end by the break: r is a word and more. -/
theorem guess_break {K n1 n0 y1 y0 q r : Nat} (g : Guess K n1 n0 y1 y0 q r) (hn : n1 < y1 * K + y0) (hy0 : y0 < K) (hr : K ≤ r) :
   q = (n1 * K + n0) / (y1 * K + y0) := by
 refine guess_end g ?_
 obtain ⟨e, u⟩ := g
 have hq : q < K := by
   rcases Nat.lt_or_ge q K with h | h
   · exact h
   · have hA : K * y1 ≤ q * y1 := Nat.mul_le_mul h (Nat.le_refl _)
     rw [Nat.mul_comm K y1] at hA
     omega
 have : q * y0 ≤ r * K := Nat.mul_le_mul (by omega) (by omega)
 omega

/-- q and r stay small: q at most 2^32 and a little; the products don't wrap. -/
theorem guess_small {n1 n0 y1 y0 q r : Nat} (g : Guess 4294967296 n1 n0 y1 y0 q r) (hy : 2147483648 ≤ y1) (hy1 : y1 < 4294967296) (hy0 : y0 < 4294967296) (hn : n1 < y1 * 4294967296 + y0) : q ≤ 4294967298 := by
 obtain ⟨e, u⟩ := g
 rcases Nat.lt_or_ge 4294967298 q with h | h
 · exfalso
   have hA : 4294967299 * y1 ≤ q * y1 := Nat.mul_le_mul h (Nat.le_refl _)
   omega
 · exact h

open Go.RowKit
set_option maxHeartbeats 1000000

theorem maskN (a : Nat) (ha : a < 18446744073709551616) : bits .and .u64 (a : Int) 4294967295 = ((a % 4294967296 : Nat) : Int) := by
 have h := bits_and_u64_nat a 4294967295 ha (by omega)
 have e : a &&& 4294967295 = a % 4294967296 := Nat.and_two_pow_sub_one_eq_mod a 32
 rw [e] at h
 exact h
theorem divN (a : Nat) : (a : Int) / 4294967296 = ((a / 4294967296 : Nat) : Int) := by omega
theorem mulN (a b : Nat) : (a : Int) * (b : Int) = ((a * b : Nat) : Int) := (Int.natCast_mul a b).symm
theorem addN (a b : Nat) : (a : Int) + (b : Int) = ((a + b : Nat) : Int) := (Int.natCast_add a b).symm
theorem wrapN (a : Nat) (ha : a < 18446744073709551616) : IntKind.u64.wrap (a : Int) = (a : Int) := by rw [IntKind.wrap_u64]; omega
theorem wrapM (a : Nat) : IntKind.u64.wrap (a : Int) = ((a % 18446744073709551616 : Nat) : Int) := by rw [IntKind.wrap_u64]; omega

theorem mul64N (x y : Nat) (hx : x < 18446744073709551616) (hy : y < 18446744073709551616) (w : World) :
   Calls Tryz.prog 118 #[.int .u64 x, .int .u64 y] w fun e w' => e = .returned (.tuple #[.int .u64 ((x * y / 18446744073709551616 : Nat) : Int), .int .u64 ((x * y % 18446744073709551616 : Nat) : Int)]) ∧ w' = w := by
 obtain ⟨bd, bt, bw, hhi⟩ := Lib.mul64_hi x y hx hy
 have ba := Lib.half_mul_le (a := x / 4294967296) (b := y / 4294967296) (by omega) (by omega)
 have bb := Lib.half_mul_le (a := x / 4294967296) (b := y % 4294967296) (by omega) (by omega)
 have bc := Lib.half_mul_le (a := x % 4294967296) (b := y / 4294967296) (by omega) (by omega)
 have ba' : x / 4294967296 * (y / 4294967296) < 18446744073709551616 := by omega
 have bb' : x / 4294967296 * (y % 4294967296) < 18446744073709551616 := by omega
 have bc' : x % 4294967296 * (y / 4294967296) < 18446744073709551616 := by omega
 have bh1 : x / 4294967296 * (y / 4294967296) + (x / 4294967296 * (y % 4294967296) + x % 4294967296 * (y % 4294967296) / 4294967296) / 4294967296 < 18446744073709551616 := by omega
 have bh : x / 4294967296 * (y / 4294967296) + (x / 4294967296 * (y % 4294967296) + x % 4294967296 * (y % 4294967296) / 4294967296) / 4294967296 + ((x / 4294967296 * (y % 4294967296) + x % 4294967296 * (y % 4294967296) / 4294967296) % 4294967296 + x % 4294967296 * (y / 4294967296)) / 4294967296 < 18446744073709551616 := by omega
 go_enter Tryz.func118, Tryz.ntmps118
 go_wp2
 simp only [maskN x hx, maskN y hy, divN, mulN, addN, wrapN _ bd, wrapN _ bb', wrapN _ bt, maskN _ bt, wrapN _ bc', wrapN _ bw, wrapN _ ba', wrapN _ bh1, wrapN _ bh, wrapM (x * y)]
 rw [hhi]
 go_ret2
 exact ⟨rfl, rfl⟩

theorem tab_fin : ∀ n : Fin 256, 0 < n.val → ∃ t : Fin 9, 1 ≤ t.val ∧ ((Lib.len8tab[n.val]?).getD 0).toNat = t.val ∧ 2 ^ (t.val - 1) ≤ n.val ∧ n.val < 2 ^ t.val := by decide +kernel
theorem tab_at (y : Nat) (h : y < Lib.len8tab.size) (h0 : 0 < y) : ∃ t : Nat, t ≤ 8 ∧ 1 ≤ t ∧ (Lib.len8tab[y]'h).toNat = t ∧ 2 ^ (t - 1) ≤ y ∧ y < 2 ^ t := by
 have hs : Lib.len8tab.size = 256 := Lib.len8tab_size
 obtain ⟨t, h1, h2, h3, h4⟩ := tab_fin ⟨y, by omega⟩ h0
 refine ⟨t.val, by omega, h1, ?_, h3, h4⟩
 rw [← h2]
 simp only [getElem?_pos Lib.len8tab y h, Option.getD_some]
theorem len_close (x K t : Nat) (ht : 1 ≤ t) (hk : K + t ≤ 64) (h1 : 2 ^ (t - 1) ≤ x / 2 ^ K) (h2 : x / 2 ^ K < 2 ^ t) :
   9223372036854775808 ≤ x * 2 ^ (64 - (K + t)) ∧ x * 2 ^ (64 - (K + t)) < 18446744073709551616 := by
 have p : 0 < 2 ^ K := Nat.pow_pos (by omega)
 rw [Nat.le_div_iff_mul_le p] at h1
 rw [Nat.div_lt_iff_lt_mul p] at h2
 have q : 0 < 2 ^ (64 - (K + t)) := Nat.pow_pos (by omega)
 have e1 : 2 ^ (t - 1) * 2 ^ K * 2 ^ (64 - (K + t)) = 9223372036854775808 := by
   rw [← Nat.pow_add, ← Nat.pow_add, show t - 1 + K + (64 - (K + t)) = 63 from by omega]
 have e2 : 2 ^ t * 2 ^ K * 2 ^ (64 - (K + t)) = 18446744073709551616 := by
   rw [← Nat.pow_add, ← Nat.pow_add, show t + K + (64 - (K + t)) = 64 from by omega]
 exact ⟨by rw [← e1]; exact Nat.mul_le_mul h1 (Nat.le_refl _), by rw [← e2]; exact Nat.mul_lt_mul_of_lt_of_le h2 (Nat.le_refl _) q⟩
/-- How many bits x has. -/
def Len (x n : Nat) : Prop := 1 ≤ n ∧ n ≤ 64 ∧ 9223372036854775808 ≤ x * 2 ^ (64 - n) ∧ x * 2 ^ (64 - n) < 18446744073709551616
theorem wrap_add (K t : Nat) (hK : K ≤ 56) (ht : t ≤ 8) : wrap64 ((K : Int) + wrap64 (t : Int)) = ((K + t : Nat) : Int) := by unfold wrap64; omega
theorem len_way (x K y : Nat) (h : y < Lib.len8tab.size) (hK : K ≤ 56) (hy : y = x / 2 ^ K) (h0 : 0 < y) : ∃ n : Nat, Len x n ∧ wrap64 ((K : Int) + wrap64 ((Lib.len8tab[y]'h).toNat : Int)) = (n : Int) := by
 obtain ⟨t, a, b, c, d, e⟩ := tab_at y h h0
 rw [c]
 rw [hy] at d e
 have := len_close x K t b (by omega) d e
 exact ⟨K + t, ⟨by omega, by omega, this⟩, wrap_add K t hK a⟩
theorem len_int (x y : Int) (K : Nat) (h : y.toNat < Lib.len8tab.size) (hK : K ≤ 56) (hy : y.toNat = x.toNat / 2 ^ K) (h0 : 0 < y) :
   ∃ m : Nat, wrap64 ((K : Int) + wrap64 ((Lib.len8tab[y.toNat]'h).toNat : Int)) = (m : Int) ∧ Len x.toNat m := by
 obtain ⟨n, a, b⟩ := len_way x.toNat K y.toNat h hK hy (by omega)
 exact ⟨n, b, a⟩
theorem len_int0 (x : Int) (h : x.toNat < Lib.len8tab.size) (h0 : 0 < x) :
   ∃ m : Nat, wrap64 (wrap64 ((Lib.len8tab[x.toNat]'h).toNat : Int)) = (m : Int) ∧ Len x.toNat m := by
 obtain ⟨t, a, b, c, d, e⟩ := tab_at x.toNat h (by omega)
 rw [c]
 have := len_close x.toNat 0 t b (by omega) (by simpa using d) (by simpa using e)
 rw [Nat.zero_add] at this
 exact ⟨t, by unfold wrap64; clear this d e; omega, ⟨b, by omega, this⟩⟩
theorem p56 (x : Int) (h : 0 ≤ x) : (x / 4294967296 / 65536 / 256).toNat = x.toNat / 2 ^ 56 := by show _ = x.toNat / 72057594037927936; omega
theorem p48 (x : Int) (h : 0 ≤ x) : (x / 4294967296 / 65536).toNat = x.toNat / 2 ^ 48 := by show _ = x.toNat / 281474976710656; omega
theorem p40 (x : Int) (h : 0 ≤ x) : (x / 4294967296 / 256).toNat = x.toNat / 2 ^ 40 := by show _ = x.toNat / 1099511627776; omega
theorem p32 (x : Int) (h : 0 ≤ x) : (x / 4294967296).toNat = x.toNat / 2 ^ 32 := by show _ = x.toNat / 4294967296; omega
theorem p24 (x : Int) (h : 0 ≤ x) : (x / 65536 / 256).toNat = x.toNat / 2 ^ 24 := by show _ = x.toNat / 16777216; omega
theorem p16 (x : Int) (h : 0 ≤ x) : (x / 65536).toNat = x.toNat / 2 ^ 16 := by show _ = x.toNat / 65536; omega
theorem p8 (x : Int) (h : 0 ≤ x) : (x / 256).toNat = x.toNat / 2 ^ 8 := by show _ = x.toNat / 256; omega
set_option maxRecDepth 100000 in
theorem len64_any (x : Int) (w : World) (h0 : 0 ≤ x) (h1 : x ≤ 18446744073709551615) :
   Calls Tryz.prog 159 #[.int .u64 x] w fun e w' => ∃ n : Int, e = .returned (.int .i64 n) ∧ (0 < x → ∃ m : Nat, n = m ∧ Len x.toNat m) ∧ w' = w := by
 go_enter Tryz.func159, Tryz.ntmps159
 go_wp2
 all_goals first
   | (go_ret; refine ⟨_, rfl, fun hp => ?_, rfl⟩; go_light)
   | (exfalso; go_light; have hs := Lib.len8tab_size; omega)
 all_goals first
   | exact len_int x _ 56 _ (by decide) (p56 x h0) (by omega)
   | exact len_int x _ 48 _ (by decide) (p48 x h0) (by omega)
   | exact len_int x _ 40 _ (by decide) (p40 x h0) (by omega)
   | exact len_int x _ 32 _ (by decide) (p32 x h0) (by omega)
   | exact len_int x _ 24 _ (by decide) (p24 x h0) (by omega)
   | exact len_int x _ 16 _ (by decide) (p16 x h0) (by omega)
   | exact len_int x _ 8 _ (by decide) (p8 x h0) (by omega)
   | exact len_int0 x _ hp
theorem lead_any (x : Nat) (w : World) (h0 : 0 < x) (h1 : x < 18446744073709551616) :
   Calls Tryz.prog 152 #[.int .u64 x] w fun e w' => ∃ s : Nat, e = .returned (.int .i64 s) ∧ s ≤ 63 ∧ 9223372036854775808 ≤ x * 2 ^ s ∧ x * 2 ^ s < 18446744073709551616 ∧ w' = w := by
 go_enter Tryz.func152, Tryz.ntmps152
 go_wp2_with fail
 refine (len64_any (x : Int) _ (by omega) (by omega)).mono ?_
 rintro e w' ⟨n, rfl, hn, rfl⟩
 obtain ⟨m, rfl, g1, g2, g3, g4⟩ := hn (by omega)
 clear hn
 rw [Int.toNat_natCast] at g3 g4
 generalize hs : 64 - m = s at *
 have hms : (m : Int) = 64 - (s : Int) := by omega
 have hb : s ≤ 63 := by omega
 clear hs
 rw [hms]
 clear hms g1 g2
 go_wp2
 go_ret
 exact ⟨s, ret_int (by omega), hb, g3, g4, rfl⟩
theorem div_done (K N y p U L1 L0 : Nat) (hp : 0 < p) (hy : 0 < y) (hN : N * p = (U * K + L1) * K + L0) :
   (U * K + L1) / (y * p) * K + ((U * K + L1) % (y * p) * K + L0) / (y * p) = N / y ∧ ((U * K + L1) % (y * p) * K + L0) % (y * p) / p = N % y := by
 have hY : 0 < y * p := Nat.mul_pos hy hp
 generalize hYe : y * p = Y at *
 have a := Nat.div_add_mod (U * K + L1) Y
 generalize hQ1 : (U * K + L1) / Y = Q1 at *
 generalize hV : (U * K + L1) % Y = V at *
 have b := Nat.div_add_mod (V * K + L0) Y
 have c := Nat.mod_lt (V * K + L0) hY
 generalize hQ0 : (V * K + L0) / Y = Q0 at *
 generalize hT : (V * K + L0) % Y = T at *
 have d : N * p = T + Y * (Q1 * K + Q0) := by
   rw [hN, ← a, Nat.add_mul, Nat.mul_add, Nat.mul_assoc]
   omega
 have e1 : N * p / Y = Q1 * K + Q0 := by rw [d, Nat.add_mul_div_left _ _ hY, Nat.div_eq_of_lt c, Nat.zero_add]
 have e2 : N * p % Y = T := by rw [d, Nat.add_mul_mod_self_left, Nat.mod_eq_of_lt c]
 rw [← hYe, Nat.mul_div_mul_right _ _ hp] at e1
 rw [← hYe, Nat.mul_mod_mul_right] at e2
 exact ⟨e1.symm, by rw [← e2, Nat.mul_div_cancel _ hp]⟩
/-- The dividend, moved: its two words. -/
theorem shift_words (hi lo s : Nat) (hs : s ≤ 63) :
   (hi * 18446744073709551616 + lo) * 2 ^ s = (hi * 2 ^ s + lo / 2 ^ (64 - s)) * 18446744073709551616 + lo * 2 ^ s % 18446744073709551616 := by
 have e : 2 ^ (64 - s) * 2 ^ s = 18446744073709551616 := by rw [← Nat.pow_add, show 64 - s + s = 64 from by omega]
 have f : lo * 2 ^ s / 18446744073709551616 = lo / 2 ^ (64 - s) := by rw [← e, Nat.mul_div_mul_right _ _ (Nat.pow_pos (by omega))]
 have g := Nat.div_add_mod (lo * 2 ^ s) 18446744073709551616
 rw [f] at g
 rw [Nat.add_mul, Nat.add_mul, Nat.mul_right_comm]
 omega
theorem lo_small (lo s : Nat) (hs : s ≤ 63) (hlo : lo < 18446744073709551616) : lo / 2 ^ (64 - s) < 2 ^ s := by
 rw [Nat.div_lt_iff_lt_mul (Nat.pow_pos (by omega)), ← Nat.pow_add, show s + (64 - s) = 64 from by omega]
 exact hlo
theorem or_words (hi lo s : Nat) (hs : s ≤ 63) (hlo : lo < 18446744073709551616) (hhi : hi * 2 ^ s < 18446744073709551616) :
   bits .or .u64 (IntKind.u64.wrap ((hi : Int) * 2 ^ s)) ((lo : Int) / 2 ^ (64 - s)) = ((hi * 2 ^ s + lo / 2 ^ (64 - s) : Nat) : Int) := by
 have b := lo_small lo s hs hlo
 have c : hi * 2 ^ s + lo / 2 ^ (64 - s) = hi * 2 ^ s ||| lo / 2 ^ (64 - s) := by rw [Nat.mul_comm]; exact Nat.two_pow_add_eq_or_of_lt b hi
 have e1 : IntKind.u64.wrap ((hi : Int) * 2 ^ s) = ((hi * 2 ^ s : Nat) : Int) := by
   have : ((hi : Int) * 2 ^ s) = ((hi * 2 ^ s : Nat) : Int) := by simp
   rw [this]; exact wrapN _ hhi
 have e2 : (lo : Int) / 2 ^ (64 - s) = ((lo / 2 ^ (64 - s) : Nat) : Int) := by simp
 have d : lo / 2 ^ (64 - s) < 18446744073709551616 := Nat.lt_of_le_of_lt (Nat.div_le_self _ _) hlo
 rw [e1, e2, c]
 exact bits_or_u64_nat _ _ hhi d
end Go.Proofs.YtalejeknigbhjaaGreatDoor
