/-
 The contracts of strings.Cut at a dot, and of package num's parts.
 The contract of package num's Parse.
 The contracts of package num's Digits and Print.
 The contracts of the document's Whole, Digits and Print.
-/
import Derived.Test.YtcggiljlilbdfaaV2
import Derived.Test.YtcggiljlilbdfaaShelf
import Derived.Lib.LaidTab
import Derived.Lib.TrimByte
import Derived.Sort.Grow
import Derived.Laws.BytesArg
namespace Go.Proofs.Ytcggiljlilbdfaa
open Go.RowKit
set_option maxHeartbeats 1000000

theorem index_dot (l : List UInt8) : (dotB l = true → Lib.indexByte l 46 = (cutA l).length ∧ l = cutA l ++ 46 :: cutB l) ∧ (dotB l = false → Lib.indexByte l 46 = -1 ∧ cutA l = l ∧ cutB l = []) := by
 induction l with
 | nil => simp [dotB, cutA, cutB, Lib.indexByte]
 | cons c l ih =>
   by_cases hc : c = 46
   · subst hc; simp [dotB, cutA, cutB, Lib.indexByte]
   · have hn : (c == 46) = false := by simpa using hc
     have hm : (c != 46) = true := by simpa using hc
     have e1 : dotB (c :: l) = dotB l := by simp [dotB, hn]
     have e2 : cutA (c :: l) = c :: cutA l := by simp [cutA, hm]
     have e3 : cutB (c :: l) = cutB l := by simp [cutB, hm]
     rw [e1, e2, e3]
     refine ⟨fun h => ?_, fun h => ?_⟩
     · obtain ⟨i1, i2⟩ := ih.1 h
       refine ⟨?_, by rw [List.cons_append, ← i2]⟩
       rw [Lib.indexByte, hn, i1]; simp
     · obtain ⟨i1, i2, i3⟩ := ih.2 h
       refine ⟨?_, by rw [i2], i3⟩
       rw [Lib.indexByte, hn, i1]; simp

theorem mkL (s : ByteArray) (l : List UInt8) (h : s.data.toList = l) : s = ⟨l.toArray⟩ := by rw [← h, Lib.mk_data]

theorem ret_s {a b : ByteArray} (h : a = b) : Ending.returned (.string a) = .returned (.string b) := by rw [h]
theorem four_len (b : List UInt8) : (four b).length = 4 := by simp [four, zs]
theorem app_list (a b : ByteArray) : (a ++ b).data.toList = a.data.toList ++ b.data.toList := by rw [ByteArray.data_append, Array.toList_append]

open Go.RowKit
set_option maxHeartbeats 1000000

theorem okD_bd {l : List UInt8} (h : okD l = true) : l.length ≤ 40 ∧ l.all dgB = true := by
 unfold okD at h; rw [Bool.and_eq_true] at h; exact ⟨by have := h.1; simp at this; omega, h.2⟩
theorem no_num {l : List UInt8} (h : numB l = false) : rdV l = 0 ∧ rdK l = 0 := by unfold rdV rdK; rw [h]; exact ⟨rfl, rfl⟩
theorem num_great {l : List UInt8} (h : numB l = true) (g : 9223372036854775807 < numN l) : rdV l = 0 ∧ rdK l = 2 := by
 unfold rdV rdK; rw [h]; have : decide (numN l ≤ 9223372036854775807) = false := by simp; omega
 rw [this]; exact ⟨rfl, by rw [if_pos rfl, if_neg (by omega)]⟩
theorem num_is {l : List UInt8} (h : numB l = true) (g : numN l ≤ 9223372036854775807) : rdV l = (if minusB l then -(numN l : Int) else numN l) ∧ rdK l = 1 := by
 unfold rdV rdK; rw [h]; have : decide (numN l ≤ 9223372036854775807) = true := by simp; omega
 rw [this]; exact ⟨rfl, by rw [if_pos rfl, if_pos g]⟩

open Go.RowKit
set_option maxHeartbeats 1000000

/-- The library's table of powers of ten is there. -/
def Tab (w : World) : Prop := Lib.TabIs Try.prog w "internal/strconv.uint64pow10" .u64 Lib.pow10Tab
theorem var_ext {P : Program} {w w' : World} {n : String} {cs : Array Value} (h : w.var? P n = some cs) (e : Ext w w') : w'.var? P n = some cs := by
 unfold World.var? at h ⊢
 cases hg : P.globalNamed n with
 | none => rw [hg] at h; cases h
 | some g =>
   rw [hg] at h
   simp only [Option.bind_some] at h ⊢
   by_cases hb : g < w.heap.size
   · rw [e.block g hb]; exact h
   · rw [show w.heap[g]? = none from by simp; omega] at h; cases h
theorem Tab.ext {w w' : World} (h : Tab w) (e : Ext w w') : Tab w' := var_ext h e
/-- How a number is written: its whole part, what stands behind the dot. -/
def fracL (r : Nat) : List UInt8 := Lib.trimRightB ((Lib.decDigits (10000 + r)).drop 1) 48
def bodyL (n : Nat) : List UInt8 := Lib.decDigits (n / 10000) ++ (if fracL (n % 10000) = [] then [] else 46 :: fracL (n % 10000))
def printL (a : Int) : List UInt8 := if canB a then (if a < 0 then 45 :: bodyL a.natAbs else bodyL a.natAbs) else [110, 111, 110, 101]

theorem dec_size (u k : Nat) (h : u < 10 ^ (k + 1)) : 1 ≤ (⟨(Lib.decDigits u).toArray⟩ : ByteArray).size ∧ (⟨(Lib.decDigits u).toArray⟩ : ByteArray).size ≤ k + 1 := by
 rw [← size_list]; exact dec_len u k h
theorem ext_one (l : List UInt8) : ((⟨l.toArray⟩ : ByteArray).extract 1 (⟨l.toArray⟩ : ByteArray).size).data.toList = l.drop 1 := by
 rw [Lib.extract_data, ← size_list]
 exact List.take_of_length_le (by simp)

open Go.RowKit
set_option maxHeartbeats 1000000

theorem conv_digit (d : Nat) (w : World) : (convert 107 9 (.slice (some ⟨w.heap.size, 0, none⟩) 1 1)).run Try.prog (w.alloc (.cells #[.int .u8 (48 + d)] 5)) = .ok (.string ⟨#[UInt8.ofNat (48 + d)]⟩) (w.alloc (.cells #[.int .u8 (48 + d)] 5)) := by
 have := run_convert_bytes_arg (P := Try.prog) (w.alloc (.cells #[.int .u8 (48 + d)] 5)) 107 5 Try.underlying107 Try.underlying5 w.heap.size 0 1 1 [48 + (d : Int)] rfl (fun i hi => by
   obtain rfl : i = 0 := by omega
   simp) 9 Try.underlying9
 rw [this]
 rfl
theorem dec_lt {n : Nat} (h : n < 10) : (⟨(Lib.decDigits n).toArray⟩ : ByteArray) = ⟨#[UInt8.ofNat (48 + n % 10)]⟩ := by
 rw [Lib.decDigits, dif_pos h, Nat.mod_eq_of_lt h]
theorem dec_ge {n : Nat} (h : ¬ n < 10) : (⟨(Lib.decDigits n).toArray⟩ : ByteArray) = ⟨(Lib.decDigits (n / 10)).toArray⟩ ++ ⟨#[UInt8.ofNat (48 + n % 10)]⟩ := by
 rw [Lib.decDigits, dif_neg h]
 symm
 apply mkL
 rw [app_list]
set_option maxRecDepth 100000 in
theorem whole_u (n : Nat) : ∀ (w : World), n < 18446744073709551616 →
   Calls Try.prog 98 #[.int .u64 n] w fun e w' => e = .returned (.string ⟨(Lib.decDigits n).toArray⟩) ∧ Ext w w' := by
 induction n using Nat.strongRecOn with
 | _ n ih =>
   intro w hn
   have hn1 : (n : Int) < 18446744073709551616 := by omega
   have hn0 : (0 : Int) ≤ n := by omega
   have cv := conv_digit (n % 10) w
   have e0 : ((n % 10 : Nat) : Int) = (n : Int) % 10 := by omega
   rw [e0] at cv
   clear e0
   generalize hx : (⟨#[UInt8.ofNat (48 + n % 10)]⟩ : ByteArray) = X at cv
   have CV : Hid (_ = _) := cv
   clear cv
   have hX : X.size = 1 := by rw [← hx]; rfl
   by_cases h : n < 10
   · have h1 : decide ((10 : Int) ≤ n) = false := by simp; omega
     have HX : Hid ((⟨(Lib.decDigits n).toArray⟩ : ByteArray) = X) := by show _ = _; rw [dec_lt h, hx]
     clear ih hx
     go_enter Try.func98, Try.ntmps98
     go_wp2_with fail
     rw [CV.out]
     go_wp2_with fail
     go_ret
     exact ⟨ret_s HX.out.symm, (Ext.refl _).alloc _⟩
   · have h1 : ¬ (n : Int) < 10 := by omega
     have c := fun W => ih (n / 10) (by omega) W (by omega)
     have e1 : ((n / 10 : Nat) : Int) = (n : Int) / 10 := by omega
     rw [e1] at c
     have HX : Hid ((⟨(Lib.decDigits n).toArray⟩ : ByteArray) = ⟨(Lib.decDigits (n / 10)).toArray⟩ ++ X) := by show _ = _; rw [dec_ge h, hx]
     obtain ⟨q1, q2⟩ := dec_size (n / 10) 19 (by omega)
     generalize (⟨(Lib.decDigits (n / 10)).toArray⟩ : ByteArray) = q at *
     clear ih hx e1
     go_enter Try.func98, Try.ntmps98
     go_wp2_with fail
     rw [CV.out]
     go_wp2_with fail
     refine (c _).mono ?_
     rintro e w1 ⟨rfl, E1⟩
     go_wp2_with fail
     go_ret
     exact ⟨ret_s HX.out.symm, ((Ext.refl _).alloc _).trans E1⟩

theorem rdigits_any (n : Int) (hn : I64 n) (w : World) :
   Calls Try.prog 101 #[.int .i64 n] w fun e w' => e = .returned (.string ⟨(Lib.itoa n).toArray⟩) ∧ Ext w w' := by
 have hb := hn
 obtain ⟨h1, h2⟩ := hb
 by_cases h : n < 0
 · have c1 := fun W => rsize_any n hn W
   have e1 : absI n = (n.natAbs : Int) := by unfold absI; rw [if_pos h]; omega
   rw [e1] at c1
   have c2 := fun W => whole_u n.natAbs W (by omega)
   obtain ⟨q1, q2⟩ := dec_size n.natAbs 19 (by omega)
   have HX : Hid ((⟨(Lib.itoa n).toArray⟩ : ByteArray) = ⟨#[45]⟩ ++ ⟨(Lib.decDigits n.natAbs).toArray⟩) := by
     show _ = _; symm; apply mkL; rw [app_list]; unfold Lib.itoa; rw [if_pos h]; rfl
   generalize (⟨(Lib.decDigits n.natAbs).toArray⟩ : ByteArray) = q at *
   clear e1
   go_enter Try.func101, Try.ntmps101
   go_wp2_with fail
   refine (c1 _).mono ?_
   rintro e w1 ⟨rfl, rfl⟩
   go_wp2_with fail
   refine (c2 _).mono ?_
   rintro e w2 ⟨rfl, E2⟩
   go_wp2_with fail
   go_ret
   exact ⟨ret_s HX.out.symm, E2⟩
 · obtain ⟨m, rfl⟩ : ∃ m : Nat, n = m := ⟨n.toNat, by omega⟩
   have c2 := fun W => whole_u m W (by omega)
   have HX : Hid (Lib.itoa m = Lib.decDigits m) := by show _ = _; unfold Lib.itoa; rw [if_neg h]; rfl
   go_enter Try.func101, Try.ntmps101
   go_wp2_with fail
   refine (c2 _).mono ?_
   rintro e w2 ⟨rfl, E2⟩
   go_wp2_with fail
   go_ret
   exact ⟨ret_s (by rw [HX.out]), E2⟩
end Go.Proofs.Ytcggiljlilbdfaa
