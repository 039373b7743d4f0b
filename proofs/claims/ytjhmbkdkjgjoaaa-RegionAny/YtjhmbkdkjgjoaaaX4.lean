import Derived.Test.YtjhmbkdkjgjoaaaX2
import Derived.Test.YtjhmbkdkjgjoaaaShelf
import Derived.Lib.LaidTab
import Derived.Lib.TrimByte
import Derived.Sort.Grow
import Derived.Laws.BytesArg
import Derived.Test.YtjhmbkdkjgjoaaaX1
import Derived.Lib.BitFns
import Derived.Test.YtjhmbkdkjgjoaaaRows
import Derived.Lib.Mul64
import Derived.Laws.Bits64b
import Derived.Deep.Light
namespace Go.Proofs.Ytjhmbkdkjgjoaaa
open Go.RowKit
set_option maxHeartbeats 1000000
theorem index_dot (l : List UInt8) : (dotB l = true → Lib.indexByte l 46 = (cutA l).length ∧ l = cutA l ++ 46 :: cutB l) ∧ (dotB l = false → Lib.indexByte l 46 = -1 ∧ cutA l = l ∧ cutB l = []) := by
 induction l with
 | nil => simp [dotB, cutA, cutB, Lib.indexByte]
 | cons c l ih =>
   by_cases hc : c = 46
   · subst hc; simp [dotB, cutA, cutB, Lib.indexByte]
   · have hn : (c == 46) = false := by simpa using hc
     have hm : (c != 46) = true := by simpa using hc
     have e1 : dotB (c :: l) = dotB l := by simp [dotB, hn]
     have e2 : cutA (c :: l) = c :: cutA l := by simp [cutA, hm]
     have e3 : cutB (c :: l) = cutB l := by simp [cutB, hm]
     rw [e1, e2, e3]
     refine ⟨fun h => ?_, fun h => ?_⟩
     · obtain ⟨i1, i2⟩ := ih.1 h
       refine ⟨?_, by rw [List.cons_append, ← i2]⟩
       rw [Lib.indexByte, hn, i1]; simp
     · obtain ⟨i1, i2, i3⟩ := ih.2 h
       refine ⟨?_, by rw [i2], i3⟩
       rw [Lib.indexByte, hn, i1]; simp
theorem mkL (s : ByteArray) (l : List UInt8) (h : s.data.toList = l) : s = ⟨l.toArray⟩ := by rw [← h, Lib.mk_data]
theorem ret_s {a b : ByteArray} (h : a = b) : Ending.returned (.string a) = .returned (.string b) := by rw [h]
theorem four_len (b : List UInt8) : (four b).length = 4 := by simp [four, zs]
theorem app_list (a b : ByteArray) : (a ++ b).data.toList = a.data.toList ++ b.data.toList := by rw [ByteArray.data_append, Array.toList_append]
open Go.RowKit
set_option maxHeartbeats 1000000
theorem okD_bd {l : List UInt8} (h : okD l = true) : l.length ≤ 40 ∧ l.all dgB = true := by
 unfold okD at h; rw [Bool.and_eq_true] at h; exact ⟨by have := h.1; simp at this; omega, h.2⟩
theorem no_num {l : List UInt8} (h : numB l = false) : rdV l = 0 ∧ rdK l = 0 := by unfold rdV rdK; rw [h]; exact ⟨rfl, rfl⟩
theorem num_great {l : List UInt8} (h : numB l = true) (g : 9223372036854775807 < numN l) : rdV l = 0 ∧ rdK l = 2 := by
 unfold rdV rdK; rw [h]; have : decide (numN l ≤ 9223372036854775807) = false := by simp; omega
 rw [this]; exact ⟨rfl, by rw [if_pos rfl, if_neg (by omega)]⟩
theorem num_is {l : List UInt8} (h : numB l = true) (g : numN l ≤ 9223372036854775807) : rdV l = (if minusB l then -(numN l : Int) else numN l) ∧ rdK l = 1 := by
 unfold rdV rdK; rw [h]; have : decide (numN l ≤ 9223372036854775807) = true := by simp; omega
 rw [this]; exact ⟨rfl, by rw [if_pos rfl, if_pos g]⟩
open Go.RowKit
set_option maxHeartbeats 1000000
def Tab (w : World) : Prop := Lib.TabIs Try.prog w "internal/strconv.uint64pow10" .u64 Lib.pow10Tab
theorem var_ext {P : Program} {w w' : World} {n : String} {cs : Array Value} (h : w.var? P n = some cs) (e : Ext w w') : w'.var? P n = some cs := by
 unfold World.var? at h ⊢
 cases hg : P.globalNamed n with
 | none => rw [hg] at h; cases h
 | some g =>
   rw [hg] at h
   simp only [Option.bind_some] at h ⊢
   by_cases hb : g < w.heap.size
   · rw [e.block g hb]; exact h
   · rw [show w.heap[g]? = none from by simp; omega] at h; cases h
theorem Tab.ext {w w' : World} (h : Tab w) (e : Ext w w') : Tab w' := var_ext h e
def fracL (r : Nat) : List UInt8 := Lib.trimRightB ((Lib.decDigits (10000 + r)).drop 1) 48
def bodyL (n : Nat) : List UInt8 := Lib.decDigits (n / 10000) ++ (if fracL (n % 10000) = [] then [] else 46 :: fracL (n % 10000))
def printL (a : Int) : List UInt8 := if canB a then (if a < 0 then 45 :: bodyL a.natAbs else bodyL a.natAbs) else [110, 111, 110, 101]
theorem dec_size (u k : Nat) (h : u < 10 ^ (k + 1)) : 1 ≤ (⟨(Lib.decDigits u).toArray⟩ : ByteArray).size ∧ (⟨(Lib.decDigits u).toArray⟩ : ByteArray).size ≤ k + 1 := by
 rw [← size_list]; exact dec_len u k h
theorem ext_one (l : List UInt8) : ((⟨l.toArray⟩ : ByteArray).extract 1 (⟨l.toArray⟩ : ByteArray).size).data.toList = l.drop 1 := by
 rw [Lib.extract_data, ← size_list]
 exact List.take_of_length_le (by simp)
open Go.RowKit
set_option maxHeartbeats 1000000
theorem conv_digit (d : Nat) (w : World) : (convert 99 9 (.slice (some ⟨w.heap.size, 0, none⟩) 1 1)).run Try.prog (w.alloc (.cells #[.int .u8 (48 + d)] 5)) = .ok (.string ⟨#[UInt8.ofNat (48 + d)]⟩) (w.alloc (.cells #[.int .u8 (48 + d)] 5)) := by
 have := run_convert_bytes_arg (P := Try.prog) (w.alloc (.cells #[.int .u8 (48 + d)] 5)) 99 5 Try.underlying99 Try.underlying5 w.heap.size 0 1 1 [48 + (d : Int)] rfl (fun i hi => by
   obtain rfl : i = 0 := by omega
   simp) 9 Try.underlying9
 rw [this]
 rfl
theorem dec_lt {n : Nat} (h : n < 10) : (⟨(Lib.decDigits n).toArray⟩ : ByteArray) = ⟨#[UInt8.ofNat (48 + n % 10)]⟩ := by
 rw [Lib.decDigits, dif_pos h, Nat.mod_eq_of_lt h]
theorem dec_ge {n : Nat} (h : ¬ n < 10) : (⟨(Lib.decDigits n).toArray⟩ : ByteArray) = ⟨(Lib.decDigits (n / 10)).toArray⟩ ++ ⟨#[UInt8.ofNat (48 + n % 10)]⟩ := by
 rw [Lib.decDigits, dif_neg h]
 symm
 apply mkL
 rw [app_list]
set_option maxRecDepth 100000 in
theorem whole_u (n : Nat) : ∀ (w : World), n < 18446744073709551616 →
   Calls Try.prog 59 #[.int .u64 n] w fun e w' => e = .returned (.string ⟨(Lib.decDigits n).toArray⟩) ∧ Ext w w' := by
 induction n using Nat.strongRecOn with
 | _ n ih =>
   intro w hn
   have hn1 : (n : Int) < 18446744073709551616 := by omega
   have hn0 : (0 : Int) ≤ n := by omega
   have cv := conv_digit (n % 10) w
   have e0 : ((n % 10 : Nat) : Int) = (n : Int) % 10 := by omega
   rw [e0] at cv
   clear e0
   generalize hx : (⟨#[UInt8.ofNat (48 + n % 10)]⟩ : ByteArray) = X at cv
   have CV : Hid (_ = _) := cv
   clear cv
   have hX : X.size = 1 := by rw [← hx]; rfl
   by_cases h : n < 10
   · have h1 : decide ((10 : Int) ≤ n) = false := by simp; omega
     have HX : Hid ((⟨(Lib.decDigits n).toArray⟩ : ByteArray) = X) := by show _ = _; rw [dec_lt h, hx]
     clear ih hx
     go_enter Try.func59, Try.ntmps59
     go_wp2_with fail
     rw [CV.out]
     go_wp2_with fail
     go_ret
     exact ⟨ret_s HX.out.symm, (Ext.refl _).alloc _⟩
   · have h1 : ¬ (n : Int) < 10 := by omega
     have c := fun W => ih (n / 10) (by omega) W (by omega)
     have e1 : ((n / 10 : Nat) : Int) = (n : Int) / 10 := by omega
     rw [e1] at c
     have HX : Hid ((⟨(Lib.decDigits n).toArray⟩ : ByteArray) = ⟨(Lib.decDigits (n / 10)).toArray⟩ ++ X) := by show _ = _; rw [dec_ge h, hx]
     obtain ⟨q1, q2⟩ := dec_size (n / 10) 19 (by omega)
     generalize (⟨(Lib.decDigits (n / 10)).toArray⟩ : ByteArray) = q at *
     clear ih hx e1
     go_enter Try.func59, Try.ntmps59
     go_wp2_with fail
     rw [CV.out]
     go_wp2_with fail
     refine (c _).mono ?_
     rintro e w1 ⟨rfl, E1⟩
     go_wp2_with fail
     go_ret
     exact ⟨ret_s HX.out.symm, ((Ext.refl _).alloc _).trans E1⟩
theorem rdigits_any (n : Int) (hn : I64 n) (w : World) :
   Calls Try.prog 62 #[.int .i64 n] w fun e w' => e = .returned (.string ⟨(Lib.itoa n).toArray⟩) ∧ Ext w w' := by
 have hb := hn
 obtain ⟨h1, h2⟩ := hb
 by_cases h : n < 0
 · have c1 := fun W => rsize_any n hn W
   have e1 : absI n = (n.natAbs : Int) := by unfold absI; rw [if_pos h]; omega
   rw [e1] at c1
   have c2 := fun W => whole_u n.natAbs W (by omega)
   obtain ⟨q1, q2⟩ := dec_size n.natAbs 19 (by omega)
   have HX : Hid ((⟨(Lib.itoa n).toArray⟩ : ByteArray) = ⟨#[45]⟩ ++ ⟨(Lib.decDigits n.natAbs).toArray⟩) := by
     show _ = _; symm; apply mkL; rw [app_list]; unfold Lib.itoa; rw [if_pos h]; rfl
   generalize (⟨(Lib.decDigits n.natAbs).toArray⟩ : ByteArray) = q at *
   clear e1
   go_enter Try.func62, Try.ntmps62
   go_wp2_with fail
   refine (c1 _).mono ?_
   rintro e w1 ⟨rfl, rfl⟩
   go_wp2_with fail
   refine (c2 _).mono ?_
   rintro e w2 ⟨rfl, E2⟩
   go_wp2_with fail
   go_ret
   exact ⟨ret_s HX.out.symm, E2⟩
 · obtain ⟨m, rfl⟩ : ∃ m : Nat, n = m := ⟨n.toNat, by omega⟩
   have c2 := fun W => whole_u m W (by omega)
   have HX : Hid (Lib.itoa m = Lib.decDigits m) := by show _ = _; unfold Lib.itoa; rw [if_neg h]; rfl
   go_enter Try.func62, Try.ntmps62
   go_wp2_with fail
   refine (c2 _).mono ?_
   rintro e w2 ⟨rfl, E2⟩
   go_wp2_with fail
   go_ret
   exact ⟨ret_s (by rw [HX.out]), E2⟩
open Go.RowKit
theorem trim_no (l : List UInt8) : Lib.trimRightB (l ++ [48]) 48 = Lib.trimRightB l 48 := by
 unfold Lib.trimRightB; simp
theorem trim_yes (l : List UInt8) (c : UInt8) (h : c ≠ 48) : Lib.trimRightB (l ++ [c]) 48 = l ++ [c] := by
 unfold Lib.trimRightB; simp [h]
theorem snoc_of (l : List UInt8) (h : l ≠ []) : ∃ r c, l = r ++ [c] := ⟨l.dropLast, l.getLast h, (List.dropLast_concat_getLast h).symm⟩
theorem trim_back (l : List UInt8) : ∃ k, l = Lib.trimRightB l 48 ++ zs k := by
 induction hn : l.length generalizing l with
 | zero => exact ⟨0, by rw [List.length_eq_zero_iff.1 hn]; rfl⟩
 | succ n ih =>
   obtain ⟨r, c, rfl⟩ := snoc_of l (fun h => by rw [h] at hn; cases hn)
   by_cases hc : c = 48
   · subst hc
     obtain ⟨k, hk⟩ := ih r (by simpa using hn)
     refine ⟨k + 1, ?_⟩
     rw [trim_no]
     conv => lhs; rw [hk]
     simp [zs, List.replicate_succ']
   · exact ⟨0, by rw [trim_yes _ _ hc]; simp [zs]⟩
def F4 (r : Nat) : List UInt8 := [UInt8.ofNat (48 + r / 1000), UInt8.ofNat (48 + r / 100 % 10), UInt8.ofNat (48 + r / 10 % 10), UInt8.ofNat (48 + r % 10)]
theorem dec_step {u : Nat} (h : ¬ u < 10) : Lib.decDigits u = Lib.decDigits (u / 10) ++ [UInt8.ofNat (48 + u % 10)] := by rw [Lib.decDigits, dif_neg h]
theorem dec_one {u : Nat} (h : u < 10) : Lib.decDigits u = [UInt8.ofNat (48 + u)] := by rw [Lib.decDigits, dif_pos h]
theorem dec_frac (r : Nat) (h : r < 10000) : Lib.decDigits (10000 + r) = 49 :: F4 r := by
 rw [dec_step (by omega), dec_step (u := (10000 + r) / 10) (by omega), dec_step (u := (10000 + r) / 10 / 10) (by omega), dec_step (u := (10000 + r) / 10 / 10 / 10) (by omega), dec_one (u := (10000 + r) / 10 / 10 / 10 / 10) (by omega)]
 unfold F4
 rw [show (10000 + r) / 10 / 10 / 10 / 10 = 1 by omega, show (10000 + r) / 10 / 10 / 10 % 10 = r / 1000 by omega, show (10000 + r) / 10 / 10 % 10 = r / 100 % 10 by omega, show (10000 + r) / 10 % 10 = r / 10 % 10 by omega, show (10000 + r) % 10 = r % 10 by omega]
 rfl
theorem frac_eq (r : Nat) (h : r < 10000) : fracL r = Lib.trimRightB (F4 r) 48 := by unfold fracL; rw [dec_frac r h]; rfl
theorem F4_val (r : Nat) (h : r < 10000) : val (F4 r) = r := by
 unfold F4 val
 simp only [List.foldl_cons, List.foldl_nil]
 rw [(dg_ofNat (d := r / 1000) (by omega)).2, (dg_ofNat (d := r / 100 % 10) (by omega)).2, (dg_ofNat (d := r / 10 % 10) (by omega)).2, (dg_ofNat (d := r % 10) (by omega)).2]
 omega
theorem frac_back (r : Nat) (h : r < 10000) : ∃ k, F4 r = fracL r ++ zs k ∧ (fracL r).length + k = 4 := by
 obtain ⟨k, hk⟩ := trim_back (F4 r)
 rw [← frac_eq r h] at hk
 refine ⟨k, hk, ?_⟩
 have := congrArg List.length hk
 simp [F4, zs] at this
 omega
theorem frac_zero : fracL 0 = [] := by rw [frac_eq 0 (by decide)]; decide
theorem frac_pos (r : Nat) (h : r < 10000) (h0 : 0 < r) : fracL r ≠ [] := by
 intro hz
 obtain ⟨k, hk, _⟩ := frac_back r h
 have := F4_val r h
 rw [hk, hz, List.nil_append, val_zs] at this
 omega
open Go.RowKit
set_option maxHeartbeats 1000000
def strSize : Value → Nat
 | .string s => s.size
 | _ => 0
theorem last_of (g : ByteArray) (h : 1 ≤ g.size) : g.data.toList = (g.extract 0 (g.size - 1)).data.toList ++ [g[g.size - 1]'(by omega)] := by
 rw [Lib.extract_data]
 have hl := size_list g
 have := List.take_succ_eq_append_getElem (l := g.data.toList) (i := g.size - 1) (by omega)
 rw [List.take_of_length_le (by omega)] at this
 exact this
theorem toNat_48 {c : UInt8} : (c.toNat : Int) = 48 ↔ c = 48 := by
 constructor
 · intro h; apply UInt8.toNat_inj.1; show c.toNat = 48; omega
 · intro h; subst h; rfl
theorem rprint_any (a : Int) (ha : I64 a) (w : World) :
   Calls Try.prog 37 #[.int .i64 a] w fun e w' => e = .returned (.string ⟨(printL a).toArray⟩) ∧ Ext w w' := by
 have cs := fun W => rsize_any a ha W
 obtain ⟨h1, h2⟩ := ha
 by_cases hc : canB a = false
 · have H : Hid (printL a = [110, 111, 110, 101]) := by show printL a = _; unfold printL; rw [hc]; rfl
   have c := fun W => rcan_any a W
   rw [hc] at c
   go_enter Try.func37, Try.ntmps37
   go_wp2_with fail
   refine (c _).mono ?_
   rintro e w' ⟨rfl, rfl⟩
   go_wp2_with fail
   go_ret
   exact ⟨ret_s (by rw [H.out]), Ext.refl _⟩
 · have hc : canB a = true := by simpa using hc
   have hc' : a ≠ -9223372036854775808 := by simpa [canB] using hc
   have c := fun W => rcan_any a W
   rw [hc] at c
   obtain ⟨m, hm⟩ : ∃ m : Nat, m = a.natAbs := ⟨_, rfl⟩
   have em : absI a = (m : Int) := by unfold absI; split <;> omega
   rw [em] at cs
   have hm1 : (m : Int) ≤ 9223372036854775807 := by omega
   have hm0 : (0 : Int) ≤ m := by omega
   have c1 := fun W => whole_u (m / 10000) W (by omega)
   have c2 := fun W => whole_u (10000 + m % 10000) W (by omega)
   have e1 : ((m / 10000 : Nat) : Int) = (m : Int) / 10000 := by omega
   have e2 : ((10000 + m % 10000 : Nat) : Int) = 10000 + (m : Int) % 10000 := by omega
   rw [e1] at c1
   rw [e2] at c2
   obtain ⟨q1, q2⟩ := dec_size (m / 10000) 14 (by omega)
   obtain ⟨r1, r2⟩ := dec_size (10000 + m % 10000) 4 (by omega)
   have HM : Hid (printL a = if a < 0 then 45 :: bodyL m else bodyL m) := by show printL a = _; unfold printL; rw [hc, if_pos rfl, hm]
   have HE1 : Hid (fracL (m % 10000) = [] → bodyL m = Lib.decDigits (m / 10000)) := by show _ → _; intro h; unfold bodyL; rw [if_pos h, List.append_nil]
   have HE2 : Hid (fracL (m % 10000) ≠ [] → bodyL m = Lib.decDigits (m / 10000) ++ 46 :: fracL (m % 10000)) := by show _ → _; intro h; unfold bodyL; rw [if_neg h]
   have HR : Hid (Lib.trimRightB ((⟨(Lib.decDigits (10000 + m % 10000)).toArray⟩ : ByteArray).extract 1 (⟨(Lib.decDigits (10000 + m % 10000)).toArray⟩ : ByteArray).size).data.toList 48 = fracL (m % 10000)) := by
     show _ = _; rw [ext_one]; rfl
   obtain ⟨q, hq⟩ : ∃ q : ByteArray, q = ⟨(Lib.decDigits (m / 10000)).toArray⟩ := ⟨_, rfl⟩
   obtain ⟨r, hr⟩ : ∃ r : ByteArray, r = ⟨(Lib.decDigits (10000 + m % 10000)).toArray⟩ := ⟨_, rfl⟩
   rw [← hq] at q1 q2 c1
   rw [← hr] at r1 r2 c2 HR
   have HQ : Hid (q.data.toList = Lib.decDigits (m / 10000)) := by show _ = _; rw [hq]
   have hneg : (a < 0) = (a < 0) := rfl
   clear hq hr hc hc' e1 e2 em hm hneg
   by_cases hz : m % 10000 = 0
   · have hz1 : (m : Int) % 10000 = 0 := by omega
     have HZ : Hid (bodyL m = Lib.decDigits (m / 10000)) := HE1.out (by rw [hz]; exact frac_zero)
     clear hz HE1 HE2 HR c2 r1 r2
     by_cases hn : a < 0
     all_goals
       go_enter Try.func37, Try.ntmps37
       go_wp2_with fail
       refine (c _).mono ?_
       rintro e w0 ⟨rfl, rfl⟩
       go_wp2_with fail
       refine (cs _).mono ?_
       rintro e w1 ⟨rfl, rfl⟩
       go_wp2_with fail
       refine (c1 _).mono ?_
       rintro e w2 ⟨rfl, E2⟩
       go_wp2_with fail
       go_ret
     · exact ⟨ret_s (mkL _ _ (by rw [HM.out, if_pos hn, HZ.out, app_list, HQ.out]; rfl)), E2⟩
     · exact ⟨ret_s (mkL _ _ (by rw [HM.out, if_neg (by omega), HZ.out, HQ.out])), E2⟩
   · have hz1 : (0 : Int) < (m : Int) % 10000 := by omega
     have hne := frac_pos (m % 10000) (by omega) (by omega)
     have HZ : Hid (bodyL m = Lib.decDigits (m / 10000) ++ 46 :: fracL (m % 10000)) := HE2.out hne
     have HN : Hid (fracL (m % 10000) ≠ []) := hne
     generalize fracL (m % 10000) = F at *
     clear hz HE1 HE2 hne
     go_enter Try.func37, Try.ntmps37
     go_wp2_with fail
     refine (c _).mono ?_
     rintro e w0 ⟨rfl, rfl⟩
     go_wp2_with fail
     refine (cs _).mono ?_
     rintro e w1 ⟨rfl, rfl⟩
     go_wp2_with fail
     refine (c1 _).mono ?_
     rintro e w2 ⟨rfl, E2⟩
     go_wp2_with fail
     refine (c2 _).mono ?_
     rintro e w3 ⟨rfl, E3⟩
     go_wp2_with fail
     go_loop [6] (fun x => ∃ g : ByteArray, x = .string g ∧ g.size ≤ 5 ∧ Hid (Lib.trimRightB g.data.toList 48 = F)) (fun x => strSize x)
     case atStart => exact ⟨_, rfl, by rw [ByteArray.size_extract]; omega, HR⟩
     case round =>
       obtain ⟨g, rfl, hg, HG⟩ := hrel
       have g1 : 1 ≤ g.size := by
         have hl := size_list g
         rcases Nat.eq_zero_or_pos g.size with h | h
         · exfalso; apply HN.out; rw [← HG.out, List.length_eq_zero_iff.1 (hl.trans h)]; rfl
         · exact h
       have HL : Hid (g.data.toList = (g.extract 0 (g.size - 1)).data.toList ++ [g[g.size - 1]'(by omega)]) := last_of g g1
       have el : (g.size : Int) - 1 = ((g.size - 1 : Nat) : Int) := by omega
       by_cases hl : g[g.size - 1].toNat = 48
       · have hl1 : ((g[g.size - 1].toNat : Int) == 48) = true := by simp; omega
         have HC : Hid (g[g.size - 1] = 48) := toNat_48.1 (by omega)
         clear hl
         go_wp2_with fail
         go_round
         case rel => exact ⟨_, rfl, by rw [ByteArray.size_extract]; omega, by show _ = _; rw [← HG.out, HL.out, HC.out, trim_no]⟩
         case measure => simp only [strSize]; rw [ByteArray.size_extract]; omega
       · have hl1 : ((g[g.size - 1].toNat : Int) == 48) = false := by simp; omega
         have HC : Hid (g.data.toList = F) := by show _ = _; rw [← HG.out, HL.out, trim_yes _ _ (fun h => hl (by rw [h]; rfl))]
         clear hl
         by_cases hn : a < 0
         · go_wp2_with fail
           go_ret
           exact ⟨ret_s (mkL _ _ (by rw [HM.out, if_pos hn, HZ.out, app_list, app_list, app_list, HQ.out, HC.out]; simp)), E2.trans E3⟩
         · go_wp2_with fail
           go_ret
           exact ⟨ret_s (mkL _ _ (by rw [HM.out, if_neg (by omega), HZ.out, app_list, app_list, HQ.out, HC.out]; simp)), E2.trans E3⟩
open Go.RowKit
set_option maxHeartbeats 1000000
end Go.Proofs.Ytjhmbkdkjgjoaaa
