/-
  The contracts of package num's Digits and Print.
-/
import Derived.Test.YtdmiddpfgmbbhaaGreatDoorDecC
import Derived.Lib.LaidTab
import Derived.Lib.TrimByte
import Derived.Sort.Grow
namespace Go.Proofs.YtdmiddpfgmbbhaaGreatDoor
open Go.RowKit
set_option maxHeartbeats 1000000

/-- The library's table of powers of ten is there. -/
def Tab (w : World) : Prop := Lib.TabIs Tryz.prog w "internal/strconv.uint64pow10" .u64 Lib.pow10Tab
theorem var_ext {P : Program} {w w' : World} {n : String} {cs : Array Value} (h : w.var? P n = some cs) (e : Ext w w') : w'.var? P n = some cs := by
  unfold World.var? at h ⊢
  cases hg : P.globalNamed n with
  | none => rw [hg] at h; cases h
  | some g =>
    rw [hg] at h
    simp only [Option.bind_some] at h ⊢
    by_cases hb : g < w.heap.size
    · rw [e.block g hb]; exact h
    · rw [show w.heap[g]? = none from by simp; omega] at h; cases h
theorem Tab.ext {w w' : World} (h : Tab w) (e : Ext w w') : Tab w' := var_ext h e
theorem ext_grow (w : World) (k : Nat) (os : Array Obj) : Ext w (Sort.grow (w.drewN k) os) :=
  ((Ext.refl w).drewN k).trans ⟨rfl, rfl, rfl, by simp [Sort.grow], fun i hi => by show (w.heap ++ os)[i]? = w.heap[i]?; exact Array.getElem?_append_left hi⟩

/-- How a number is written: its whole part, what stands behind the dot. -/
def fracL (r : Nat) : List UInt8 := Lib.trimRightB ((Lib.decDigits (10000 + r)).drop 1) 48
def bodyL (n : Nat) : List UInt8 := Lib.decDigits (n / 10000) ++ (if fracL (n % 10000) = [] then [] else 46 :: fracL (n % 10000))
def printL (a : Int) : List UInt8 := if canB a then (if a < 0 then 45 :: bodyL a.natAbs else bodyL a.natAbs) else [110, 111, 110, 101]

theorem dec_size (u k : Nat) (h : u < 10 ^ (k + 1)) : 1 ≤ (⟨(Lib.decDigits u).toArray⟩ : ByteArray).size ∧ (⟨(Lib.decDigits u).toArray⟩ : ByteArray).size ≤ k + 1 := by
  rw [← size_list]; exact dec_len u k h
theorem trim_len (l : List UInt8) (c : UInt8) : (Lib.trimRightB l c).length ≤ l.length := by
  unfold Lib.trimRightB
  rw [List.length_reverse]
  have := List.dropWhile_sublist (fun x => x == c) (l := l.reverse)
  simpa using this.length_le
theorem ext_one (l : List UInt8) : ((⟨l.toArray⟩ : ByteArray).extract 1 (⟨l.toArray⟩ : ByteArray).size).data.toList = l.drop 1 := by
  rw [Lib.extract_data, ← size_list]
  exact List.take_of_length_le (by simp)
theorem print_any (a : Int) (ha : I64 a) (w : World) (hT : Tab w) :
    Calls Tryz.prog 64 #[.int .i64 a] w fun e w' => e = .returned (.string ⟨(printL a).toArray⟩) ∧ Ext w w' := by
  obtain ⟨h1, h2⟩ := ha
  by_cases hc : canB a = false
  · have H : Hid (printL a = [110, 111, 110, 101]) := by show printL a = _; unfold printL; rw [hc]; rfl
    have c := fun W => can_any a W
    rw [hc] at c
    go_enter Tryz.func64, Tryz.ntmps64
    go_wp2_with fail
    refine (c _).mono ?_
    rintro e w' ⟨rfl, rfl⟩
    go_wp2_with fail
    go_ret
    exact ⟨ret_s (by rw [H.out]), Ext.refl _⟩
  · have hc : canB a = true := by simpa using hc
    have hc' : a ≠ -9223372036854775808 := by simpa [canB] using hc
    have c := fun W => can_any a W
    rw [hc] at c
    obtain ⟨m, hm⟩ : ∃ m : Nat, m = a.natAbs := ⟨_, rfl⟩
    have i1 : Lib.itoa ((m : Int) / 10000) = Lib.decDigits (m / 10000) := by unfold Lib.itoa; rw [if_neg (by omega)]; congr 1
    have i2 : Lib.itoa (10000 + (m : Int) % 10000) = Lib.decDigits (10000 + m % 10000) := by unfold Lib.itoa; rw [if_neg (by omega)]; congr 1
    have c1 := fun W hW => Tryz.strconv_FormatInt_10 ((m : Int) / 10000) (by omega) (by omega) W hW
    have c2 := fun W hW => Tryz.strconv_FormatInt_10 (10000 + (m : Int) % 10000) (by omega) (by omega) W hW
    rw [i1] at c1
    rw [i2] at c2
    obtain ⟨q1, q2⟩ := dec_size (m / 10000) 14 (by omega)
    obtain ⟨r1, r2⟩ := dec_size (10000 + m % 10000) 4 (by omega)
    have f2 : (fracL (m % 10000)).length ≤ 5 := Nat.le_trans (trim_len _ _) (by rw [List.length_drop]; rw [← size_list] at r2; simp at r2 ⊢; omega)
    have c3 := fun W => Tryz.strings_TrimRight_one ((⟨(Lib.decDigits (10000 + m % 10000)).toArray⟩ : ByteArray).extract 1 (⟨(Lib.decDigits (10000 + m % 10000)).toArray⟩ : ByteArray).size) 48 (by decide) W (by rw [ByteArray.size_extract]; omega)
    rw [ext_one] at c3
    have f3 : (⟨(fracL (m % 10000)).toArray⟩ : ByteArray).size ≤ 5 := by rw [← size_list]; exact f2
    have c4 : ∀ W, Calls Tryz.prog 81 #[.string ((⟨(Lib.decDigits (10000 + m % 10000)).toArray⟩ : ByteArray).extract 1 (⟨(Lib.decDigits (10000 + m % 10000)).toArray⟩ : ByteArray).size), .string ⟨#[48]⟩] W fun e w' => e = .returned (.string ⟨(fracL (m % 10000)).toArray⟩) ∧ w' = W := c3
    have HE1 : Hid (fracL (m % 10000) = [] → bodyL m = Lib.decDigits (m / 10000)) := by show _ → _; intro h; unfold bodyL; rw [if_pos h, List.append_nil]
    have HE2 : Hid (fracL (m % 10000) ≠ [] → bodyL m = Lib.decDigits (m / 10000) ++ 46 :: fracL (m % 10000)) := by show _ → _; intro h; unfold bodyL; rw [if_neg h]
    have HE3 : Hid ((⟨(fracL (m % 10000)).toArray⟩ : ByteArray).toList.isEmpty = decide (fracL (m % 10000) = [])) := by show _ = _; rw [ByteArray.toList_eq]; show (fracL (m % 10000)).isEmpty = _; cases fracL (m % 10000) <;> simp
    clear c3 f2 i1 i2
    obtain ⟨q, hq⟩ : ∃ q : ByteArray, q = ⟨(Lib.decDigits (m / 10000)).toArray⟩ := ⟨_, rfl⟩
    obtain ⟨r, hr⟩ : ∃ r : ByteArray, r = ⟨(Lib.decDigits (10000 + m % 10000)).toArray⟩ := ⟨_, rfl⟩
    obtain ⟨f, hf⟩ : ∃ f : ByteArray, f = ⟨(fracL (m % 10000)).toArray⟩ := ⟨_, rfl⟩
    rw [← hq] at q1 q2 c1
    rw [← hr] at r1 r2 c2 c4
    rw [← hf] at f3 c4 HE3
    have HQ : Hid (q.data.toList = Lib.decDigits (m / 10000)) := by show _ = _; rw [hq]
    have HF : Hid (f.data.toList = fracL (m % 10000)) := by show _ = _; rw [hf]
    clear hq hr hf
    by_cases hn : a < 0
    · have H : Hid (printL a = 45 :: bodyL m) := by show printL a = _; unfold printL; rw [hc, if_pos rfl, if_pos hn, hm]
      have hm1 : (m : Int) ≤ 9223372036854775807 := by omega
      have hm0 : (0 : Int) ≤ m := by omega
      obtain rfl : a = -(m : Int) := by omega
      clear hc hc' hm
      go_enter Tryz.func64, Tryz.ntmps64
      go_wp2_with fail
      refine (c _).mono ?_
      rintro e w' ⟨rfl, rfl⟩
      go_wp2_with fail
      refine (c1 _ hT).mono ?_
      rintro e w1 ⟨rfl, k1, os1, rfl⟩
      have E1 := ext_grow w' k1 os1
      generalize Sort.grow (w'.drewN k1) os1 = w1 at *
      go_wp2_with fail
      refine (c2 _ (hT.ext E1)).mono ?_
      rintro e w2 ⟨rfl, k2, os2, rfl⟩
      have E2 := ext_grow w1 k2 os2
      generalize Sort.grow (w1.drewN k2) os2 = w2 at *
      go_wp2_with fail
      refine (c4 _).mono ?_
      rintro e w3 ⟨rfl, rfl⟩
      by_cases hz : fracL (m % 10000) = []
      · have hz1 : f.toList.isEmpty = true := by rw [HE3.out]; simpa using hz
        have HZ : Hid (bodyL m = Lib.decDigits (m / 10000)) := HE1.out hz
        clear hz
        go_wp2_with fail
        go_ret
        exact ⟨ret_s (mkL _ _ (by rw [H.out, HZ.out, app_list, HQ.out]; rfl)), E1.trans E2⟩
      · have hz1 : f.toList.isEmpty = false := by rw [HE3.out]; simpa using hz
        have HZ : Hid (bodyL m = Lib.decDigits (m / 10000) ++ 46 :: fracL (m % 10000)) := HE2.out hz
        clear hz
        go_wp2_with fail
        go_ret
        exact ⟨ret_s (mkL _ _ (by rw [H.out, HZ.out, app_list, app_list, app_list, HQ.out, HF.out]; simp)), E1.trans E2⟩
    · have H : Hid (printL a = bodyL m) := by show printL a = _; unfold printL; rw [hc, if_pos rfl, if_neg hn, hm]
      obtain rfl : a = (m : Int) := by omega
      clear hc hc' hm
      go_enter Tryz.func64, Tryz.ntmps64
      go_wp2_with fail
      refine (c _).mono ?_
      rintro e w' ⟨rfl, rfl⟩
      go_wp2_with fail
      refine (c1 _ hT).mono ?_
      rintro e w1 ⟨rfl, k1, os1, rfl⟩
      have E1 := ext_grow w' k1 os1
      generalize Sort.grow (w'.drewN k1) os1 = w1 at *
      go_wp2_with fail
      refine (c2 _ (hT.ext E1)).mono ?_
      rintro e w2 ⟨rfl, k2, os2, rfl⟩
      have E2 := ext_grow w1 k2 os2
      generalize Sort.grow (w1.drewN k2) os2 = w2 at *
      go_wp2_with fail
      refine (c4 _).mono ?_
      rintro e w3 ⟨rfl, rfl⟩
      by_cases hz : fracL (m % 10000) = []
      · have hz1 : f.toList.isEmpty = true := by rw [HE3.out]; simpa using hz
        have HZ : Hid (bodyL m = Lib.decDigits (m / 10000)) := HE1.out hz
        clear hz
        go_wp2_with fail
        go_ret
        exact ⟨ret_s (mkL _ _ (by rw [H.out, HZ.out, app_list, HQ.out]; rfl)), E1.trans E2⟩
      · have hz1 : f.toList.isEmpty = false := by rw [HE3.out]; simpa using hz
        have HZ : Hid (bodyL m = Lib.decDigits (m / 10000) ++ 46 :: fracL (m % 10000)) := HE2.out hz
        clear hz
        go_wp2_with fail
        go_ret
        exact ⟨ret_s (mkL _ _ (by rw [H.out, HZ.out, app_list, app_list, app_list, HQ.out, HF.out]; simp)), E1.trans E2⟩
end Go.Proofs.YtdmiddpfgmbbhaaGreatDoor
