/-
 The contracts of strings.Cut at a dot, and of package num's parts.
 The contract of package num's Parse.
 The contracts of package num's Digits and Print.
 The bytes of a list.
 The contracts of the document's Whole, Digits and Print.
 How numbers are written, as lists: noughts at the end, and that what is written says the number. Plain mathematics.
 The contract of the document's Print.
 Plain arithmetic of the long division by halves of 32 bits (math/bits.Div64): no program in sight.
-/
import Derived.Test.YteaoeichgibgiaaDoorZ1
import Derived.Test.YteaoeichgibgiaaDoorShelf
import Derived.Lib.LaidTab
import Derived.Lib.TrimByte
import Derived.Sort.Grow
import Derived.Laws.BytesArg
import Derived.Lib.BitFns
namespace Go.Proofs.YteaoeichgibgiaaDoor
open Go.RowKit
set_option maxHeartbeats 1000000

theorem index_dot (l : List UInt8) : (dotB l = true → Lib.indexByte l 46 = (cutA l).length ∧ l = cutA l ++ 46 :: cutB l) ∧ (dotB l = false → Lib.indexByte l 46 = -1 ∧ cutA l = l ∧ cutB l = []) := by
 induction l with
 | nil => simp [dotB, cutA, cutB, Lib.indexByte]
 | cons c l ih =>
   by_cases hc : c = 46
   · subst hc; simp [dotB, cutA, cutB, Lib.indexByte]
   · have hn : (c == 46) = false := by simpa using hc
     have hm : (c != 46) = true := by simpa using hc
     have e1 : dotB (c :: l) = dotB l := by simp [dotB, hn]
     have e2 : cutA (c :: l) = c :: cutA l := by simp [cutA, hm]
     have e3 : cutB (c :: l) = cutB l := by simp [cutB, hm]
     rw [e1, e2, e3]
     refine ⟨fun h => ?_, fun h => ?_⟩
     · obtain ⟨i1, i2⟩ := ih.1 h
       refine ⟨?_, by rw [List.cons_append, ← i2]⟩
       rw [Lib.indexByte, hn, i1]; simp
     · obtain ⟨i1, i2, i3⟩ := ih.2 h
       refine ⟨?_, by rw [i2], i3⟩
       rw [Lib.indexByte, hn, i1]; simp

theorem mkL (s : ByteArray) (l : List UInt8) (h : s.data.toList = l) : s = ⟨l.toArray⟩ := by rw [← h, Lib.mk_data]

theorem ret_ssb {a b c d : ByteArray} {x y : Bool} (h : a = c) (h' : b = d) (g : x = y) : Ending.returned (.tuple #[.string a, .string b, .bool x]) = .returned (.tuple #[.string c, .string d, .bool y]) := by rw [h, h', g]
theorem cut_ahead (s : ByteArray) (A B : List UInt8) (c : UInt8) (k : Nat) (h : s.data.toList = A ++ c :: B) (hk : A.length = k) : s.extract 0 k = ⟨A.toArray⟩ := by
 apply mkL; rw [Lib.extract_data, h, ← hk]; simp
theorem cut_behind (s : ByteArray) (A B : List UInt8) (c : UInt8) (k : Nat) (h : s.data.toList = A ++ c :: B) (hk : A.length = k) : s.extract (k + 1) s.size = ⟨B.toArray⟩ := by
 apply mkL; rw [Lib.extract_data, ← size_list, h, ← hk]
 have e : A ++ c :: B = (A ++ [c]) ++ B := by simp
 rw [e, List.drop_append_of_le_length (by simp), List.drop_of_length_le (by simp), List.nil_append, List.take_of_length_le (by simp; omega)]

theorem lcut_any (s : ByteArray) (w : World) (hs : s.size ≤ maxLen) :
   Calls Tryd.prog 58 #[.string s, .string ⟨#[46]⟩] w fun e w' => e = .returned (.tuple #[.string ⟨(cutA s.data.toList).toArray⟩, .string ⟨(cutB s.data.toList).toArray⟩, .bool (dotB s.data.toList)]) ∧ ∃ n, w' = w.drewN n := by
 unfold maxLen at hs
 have hl := size_list s
 obtain ⟨hi, hj⟩ := index_dot s.data.toList
 cases hd : dotB s.data.toList
 · obtain ⟨i1, i2, i3⟩ := hj hd
   have H2 : Hid (cutA s.data.toList = s.data.toList) := i2
   have H3 : Hid (cutB s.data.toList = []) := i3
   clear hi hj i2 i3 hd
   go_enter Tryd.func58, Tryd.ntmps58
   go_wp2_with (go_at_call 62; refine (Tryd.stringslite_Index_one s 46 _).mono ?_; rintro e w' ⟨rfl, rfl⟩; rw [i1])
   go_ret3
   exact ⟨ret_ssb (by rw [H2.out, Lib.mk_data]) (by rw [H3.out]) rfl, 0, rfl⟩
 · obtain ⟨i1, i2⟩ := hi hd
   have H2 : Hid (s.data.toList = cutA s.data.toList ++ 46 :: cutB s.data.toList) := i2
   have hk : (cutA s.data.toList).length < s.size := by rw [← hl]; have := congrArg List.length i2; simp at this; omega
   generalize hkk : (cutA s.data.toList).length = k at *
   clear hi hj i2 hd
   go_enter Tryd.func58, Tryd.ntmps58
   go_wp2_with (go_at_call 62; refine (Tryd.stringslite_Index_one s 46 _).mono ?_; rintro e w' ⟨rfl, rfl⟩; rw [i1])
   have c1 : (0 : Int) ≤ ↑k := by omega
   have c2 : (↑k : Int) ≤ ↑s.size := by omega
   have c3 : (0 : Int) ≤ ↑k + 1 := by omega
   have c4 : (↑k + 1 : Int) ≤ ↑s.size := by omega
   go_region
   go_wp2
   go_ret3
   exact ⟨ret_ssb (cut_ahead s _ _ _ _ H2.out hkk) (cut_behind s _ _ _ _ H2.out hkk) rfl, 1, rfl⟩

theorem cut_any (s : ByteArray) (w : World) (hs : s.size ≤ maxLen) :
   Calls Tryd.prog 53 #[.string s, .string ⟨#[46]⟩] w fun e w' => e = .returned (.tuple #[.string ⟨(cutA s.data.toList).toArray⟩, .string ⟨(cutB s.data.toList).toArray⟩, .bool (dotB s.data.toList)]) ∧ ∃ n, w' = w.drewN n := by
 have c := fun W => lcut_any s W hs
 go_enter Tryd.func53, Tryd.ntmps53
 go_wp2_with fail
 refine (c _).mono ?_
 rintro e w' ⟨rfl, n, rfl⟩
 go_wp2
 go_ret3
 exact ⟨rfl, n, rfl⟩

theorem four_len (b : List UInt8) : (four b).length = 4 := by simp [four, zs]
theorem four_all (b : List UInt8) (h : b.all dgB = true) : (four b).all dgB = true := by
 rw [List.all_eq_true]
 intro x hx
 have := List.mem_of_mem_take hx
 rw [List.mem_append] at this
 rcases this with h1 | h1
 · exact List.all_eq_true.1 h x h1
 · exact List.all_eq_true.1 (all_zs 5) x h1
theorem app_list (a b : ByteArray) : (a ++ b).data.toList = a.data.toList ++ b.data.toList := by rw [ByteArray.data_append, Array.toList_append]
theorem add_one (V : Nat) (hV : V ≤ 9223372036854775807) : addV V 1 = whV (V + 1) ∧ addB V 1 = whB (V + 1) := by
 have hb : addB V 1 = whB (V + 1) := by
   unfold addB canB fitB whB
   rw [Bool.eq_iff_iff]
   simp
   omega
 refine ⟨?_, hb⟩
 unfold addV whV
 rw [hb]
 unfold whB
 by_cases h : V + 1 ≤ 9223372036854775807
 · simp [h]
 · simp [h]
theorem parts_any (a b : ByteArray) (w : World) (ha : a.size ≤ 40) (hb : b.size ≤ 40) (da : a.data.toList.all dgB = true) (db : b.data.toList.all dgB = true) :
   Calls Tryd.prog 55 #[.string a, .string b] w fun e w' => e = .returned (.tuple #[.int .i64 (whV (nv a.data.toList b.data.toList)), .bool (whB (nv a.data.toList b.data.toList))]) ∧ Ext w w' := by
 have e0 : (b ++ (⟨#[48, 48, 48, 48, 48]⟩ : ByteArray)).data.toList = b.data.toList ++ zs 5 := app_list _ _
 have e1 : (a ++ (b ++ (⟨#[48, 48, 48, 48, 48]⟩ : ByteArray)).extract 0 4).data.toList = a.data.toList ++ four b.data.toList := by
   rw [app_list, Lib.extract_data, e0]; rfl
 have hz : (b ++ (⟨#[48, 48, 48, 48, 48]⟩ : ByteArray)).size = b.size + 5 := by rw [ByteArray.size_append]; rfl
 have hz4 : 4 < (b ++ (⟨#[48, 48, 48, 48, 48]⟩ : ByteArray)).size := by omega
 have e2 : (b ++ (⟨#[48, 48, 48, 48, 48]⟩ : ByteArray))[4] = fifth b.data.toList := by
   unfold fifth; rw [← e0]
   have := get_list _ 4 hz4
   rw [← this, List.getD_eq_getElem?_getD, List.getElem?_eq_getElem (by rw [size_list]; exact hz4)]; rfl
 have c := fun W => whole_any (a ++ (b ++ (⟨#[48, 48, 48, 48, 48]⟩ : ByteArray)).extract 0 4) W (by rw [← size_list, e1, List.length_append, four_len, size_list]; omega) (by rw [e1, List.all_append, da, four_all _ db]; rfl)
 rw [e1] at c
 have HN : Hid (nv a.data.toList b.data.toList = val (a.data.toList ++ four b.data.toList) + (if 53 ≤ (fifth b.data.toList).toNat then 1 else 0)) := rfl
 rw [← e2] at HN
 clear e0 e1 e2 da db
 generalize val (a.data.toList ++ four b.data.toList) = V at *
 generalize nv a.data.toList b.data.toList = N at *
 by_cases hV : V ≤ 9223372036854775807
 · rw [(wh_yes hV).1, (wh_yes hV).2] at c
   have cA := fun W => add_any V 1 ⟨by omega, by omega⟩ ⟨by omega, by omega⟩ W
   by_cases h5 : (53 : Int) ≤ (b ++ (⟨#[48, 48, 48, 48, 48]⟩ : ByteArray))[4].toNat
   · go_enter Tryd.func55, Tryd.ntmps55
     go_wp2_with fail
     refine (c _).mono ?_
     rintro e w' ⟨rfl, rfl⟩
     go_wp2_with fail
     refine (cA _).mono ?_
     rintro e w1 ⟨rfl, E1⟩
     go_wp2_with fail
     go_ret2
     refine ⟨ret_ib ?_ ?_, E1⟩
     all_goals
       have hN : N = V + 1 := by have := HN.out; rw [if_pos (by omega)] at this; exact this
       rw [hN]
     · exact (add_one V hV).1
     · exact (add_one V hV).2
   · go_enter Tryd.func55, Tryd.ntmps55
     go_wp2_with fail
     refine (c _).mono ?_
     rintro e w' ⟨rfl, rfl⟩
     go_wp2_with fail
     go_ret2
     refine ⟨ret_ib ?_ ?_, Ext.refl _⟩
     all_goals
       have hN : N = V := by have := HN.out; rw [if_neg (by omega)] at this; exact this
       rw [hN]
     · exact (wh_yes hV).1.symm
     · exact (wh_yes hV).2.symm
 · rw [(wh_no (by omega)).1, (wh_no (by omega)).2] at c
   go_enter Tryd.func55, Tryd.ntmps55
   go_wp2_with fail
   refine (c _).mono ?_
   rintro e w' ⟨rfl, rfl⟩
   go_wp2_with fail
   go_ret2
   refine ⟨ret_ib ?_ ?_, Ext.refl _⟩
   all_goals have hN : 9223372036854775807 < N := by have := HN.out; omega
   · exact (wh_no hN).1.symm
   · exact (wh_no hN).2.symm

open Go.RowKit
set_option maxHeartbeats 1000000

theorem pre_minus (l : List UInt8) : Lib.hasPrefix l [45] = minusB l ∧ Lib.trimPrefix l [45] = sizeL l := by
 cases l with
 | nil => exact ⟨rfl, rfl⟩
 | cons c l =>
   have e : Lib.hasPrefix (c :: l) [45] = minusB (c :: l) := by
     simp [Lib.hasPrefix, minusB, List.isPrefixOf]
     by_cases h : c = 45
     · subst h; rfl
     · have h1 : (45 == c) = false := by simpa using fun e => h e.symm
       have h2 : (c == 45) = false := by simpa using h
       rw [h1, h2]
   refine ⟨e, ?_⟩
   unfold Lib.trimPrefix sizeL
   rw [e]
   rfl
theorem okD_bd {l : List UInt8} (h : okD l = true) : l.length ≤ 40 ∧ l.all dgB = true := by
 unfold okD at h; rw [Bool.and_eq_true] at h; exact ⟨by have := h.1; simp at this; omega, h.2⟩
theorem no_num {l : List UInt8} (h : numB l = false) : rdV l = 0 ∧ rdK l = 0 := by unfold rdV rdK; rw [h]; exact ⟨rfl, rfl⟩
theorem num_great {l : List UInt8} (h : numB l = true) (g : 9223372036854775807 < numN l) : rdV l = 0 ∧ rdK l = 2 := by
 unfold rdV rdK; rw [h]; have : decide (numN l ≤ 9223372036854775807) = false := by simp; omega
 rw [this]; exact ⟨rfl, by rw [if_pos rfl, if_neg (by omega)]⟩
theorem num_is {l : List UInt8} (h : numB l = true) (g : numN l ≤ 9223372036854775807) : rdV l = (if minusB l then -(numN l : Int) else numN l) ∧ rdK l = 1 := by
 unfold rdV rdK; rw [h]; have : decide (numN l ≤ 9223372036854775807) = true := by simp; omega
 rw [this]; exact ⟨rfl, by rw [if_pos rfl, if_pos g]⟩
theorem cut_short (l : List UInt8) : (cutA l).length ≤ l.length ∧ (cutB l).length ≤ l.length ∧ (dotB l = false → cutB l = []) := by
 obtain ⟨h1, h2⟩ := index_dot l
 cases hd : dotB l
 · obtain ⟨_, a, b⟩ := h2 hd
   rw [a, b]; simp
 · obtain ⟨_, a⟩ := h1 hd
   have := congrArg List.length a
   simp at this
   exact ⟨by omega, by omega, fun h => by cases h⟩

theorem parse_any (s : ByteArray) (w : World) (hs : s.size ≤ maxLen) :
   Calls Tryd.prog 47 #[.string s] w fun e w' => e = .returned (.tuple #[.int .i64 (rdV s.data.toList), .int .i64 (rdK s.data.toList)]) ∧ Ext w w' := by
 unfold maxLen at hs
 have hl := size_list s
 obtain ⟨p1, p2⟩ := pre_minus s.data.toList
 have c1 := fun W => Tryd.strings_CutPrefix s ⟨#[45]⟩ W
 simp only [p1, p2] at c1
 clear p1 p2
 have hr : (sizeL s.data.toList).length ≤ s.size := by
   rw [← hl]; unfold sizeL; split
   · simp
   · exact Nat.le_refl _
 have hA : Hid (numB s.data.toList = (okD (cutA (sizeL s.data.toList)) && (!dotB (sizeL s.data.toList) || okD (cutB (sizeL s.data.toList))))) := rfl
 have hN : Hid (numN s.data.toList = nv (cutA (sizeL s.data.toList)) (cutB (sizeL s.data.toList))) := rfl
 obtain ⟨k1, k2, k3⟩ := cut_short (sizeL s.data.toList)
 have c2 := fun W => cut_any ⟨(sizeL s.data.toList).toArray⟩ W (by unfold maxLen; rw [← size_list]; show (sizeL s.data.toList).length ≤ _; omega)
 simp only at c2
 have c3 := fun W => digits_any ⟨(cutA (sizeL s.data.toList)).toArray⟩ W (by unfold maxLen; rw [← size_list]; show (cutA (sizeL s.data.toList)).length ≤ _; omega)
 have c4 := fun W => digits_any ⟨(cutB (sizeL s.data.toList)).toArray⟩ W (by unfold maxLen; rw [← size_list]; show (cutB (sizeL s.data.toList)).length ≤ _; omega)
 simp only at c3 c4
 have c5 : okD (cutA (sizeL s.data.toList)) = true → (dotB (sizeL s.data.toList) = false ∨ okD (cutB (sizeL s.data.toList)) = true) → ∀ W, Calls Tryd.prog 55 #[.string ⟨(cutA (sizeL s.data.toList)).toArray⟩, .string ⟨(cutB (sizeL s.data.toList)).toArray⟩] W fun e w' => e = .returned (.tuple #[.int .i64 (whV (numN s.data.toList)), .bool (whB (numN s.data.toList))]) ∧ Ext W w' := by
   intro h1 h2 W
   have hb : (cutB (sizeL s.data.toList)).length ≤ 40 ∧ (cutB (sizeL s.data.toList)).all dgB = true := by
     rcases h2 with h2 | h2
     · rw [k3 h2]; exact ⟨by simp, rfl⟩
     · exact okD_bd h2
   rw [hN.out]
   exact parts_any _ _ W (by rw [← size_list]; exact (okD_bd h1).1) (by rw [← size_list]; exact hb.1) (okD_bd h1).2 hb.2
 generalize cutA (sizeL s.data.toList) = A at *
 generalize cutB (sizeL s.data.toList) = B at *
 generalize dotB (sizeL s.data.toList) = D at *
 generalize sizeL s.data.toList = R at *
 generalize hoa : okD A = oa at *
 generalize hob : okD B = ob at *
 clear hoa hob k1 k2 k3 hr
 have HG := fun h g => @num_great s.data.toList h g
 have HI := fun h g => @num_is s.data.toList h g
 have HZ := fun h => @no_num s.data.toList h
 generalize hnn : numN s.data.toList = N at *
 generalize hmm : minusB s.data.toList = M at *
 have HGh : Hid (numB s.data.toList = true → 9223372036854775807 < N → rdV s.data.toList = 0 ∧ rdK s.data.toList = 2) := HG
 have HIh : Hid (numB s.data.toList = true → N ≤ 9223372036854775807 → rdV s.data.toList = (if M then -(N : Int) else N) ∧ rdK s.data.toList = 1) := HI
 have HZh : Hid (numB s.data.toList = false → rdV s.data.toList = 0 ∧ rdK s.data.toList = 0) := HZ
 clear HG HI HZ hnn hmm hN hl
 have hdec : (oa = false ∨ (oa = true ∧ D = true ∧ ob = false)) ∨ (oa = true ∧ (D = false ∨ ob = true)) := by
   cases oa <;> cases D <;> cases ob <;> simp
 rcases hdec with hdec | ⟨hoa, hdob⟩
 · have hz : numB s.data.toList = false := by
     rw [hA.out]; rcases hdec with h | ⟨h1, h2, h3⟩
     · rw [h]; rfl
     · rw [h1, h2, h3]; rfl
   obtain ⟨z1, z2⟩ := HZh.out hz
   rw [z1, z2]
   clear c5 HGh HIh HZh hA hz
   rcases hdec with h | ⟨h1, h2, h3⟩
   · subst h
     go_enter Tryd.func47, Tryd.ntmps47
     go_wp2_with fail
     refine (c1 _).mono ?_
     rintro e w' ⟨rfl, rfl⟩
     go_wp2_with fail
     refine (c2 _).mono ?_
     rintro e w2 ⟨rfl, n2, rfl⟩
     go_wp2_with fail
     refine (c3 _).mono ?_
     rintro e w3 ⟨rfl, rfl⟩
     go_wp2_with fail
     go_ret2
     exact ⟨ret_ii rfl rfl, (Ext.refl _).drewN _⟩
   · subst h1; subst h2; subst h3
     go_enter Tryd.func47, Tryd.ntmps47
     go_wp2_with fail
     refine (c1 _).mono ?_
     rintro e w' ⟨rfl, rfl⟩
     go_wp2_with fail
     refine (c2 _).mono ?_
     rintro e w2 ⟨rfl, n2, rfl⟩
     go_wp2_with fail
     refine (c3 _).mono ?_
     rintro e w3 ⟨rfl, rfl⟩
     go_wp2_with fail
     refine (c4 _).mono ?_
     rintro e w4 ⟨rfl, rfl⟩
     go_wp2_with fail
     go_ret2
     exact ⟨ret_ii rfl rfl, (Ext.refl _).drewN _⟩
 · have hz : numB s.data.toList = true := by
     rw [hA.out, hoa]; rcases hdob with h | h
     · rw [h]; rfl
     · rw [h]; simp
   have c6 := c5 hoa hdob
   have HG2 := HGh.out hz
   have HI2 := HIh.out hz
   subst hoa
   clear c5 HGh HIh HZh hA hz
   by_cases hN : N ≤ 9223372036854775807
   · obtain ⟨z1, z2⟩ := HI2 hN
     rw [z1, z2]
     rw [(wh_yes hN).1, (wh_yes hN).2] at c6
     have hN1 : (N : Int) ≤ 9223372036854775807 := by omega
     clear HG2 HI2 z1 z2 hN
     cases D
     · cases M
       all_goals
         go_enter Tryd.func47, Tryd.ntmps47
         go_wp2_with fail
         refine (c1 _).mono ?_
         rintro e w' ⟨rfl, rfl⟩
         go_wp2_with fail
         refine (c2 _).mono ?_
         rintro e w2 ⟨rfl, n2, rfl⟩
         go_wp2_with fail
         refine (c3 _).mono ?_
         rintro e w3 ⟨rfl, rfl⟩
         go_wp2_with fail
         refine (c6 _).mono ?_
         rintro e w5 ⟨rfl, E5⟩
         go_wp2_with fail
         go_ret2
         exact ⟨ret_ii rfl rfl, ((Ext.refl _).drewN _).trans E5⟩
     · obtain rfl : ob = true := by rcases hdob with h | h; cases h; exact h
       cases M
       all_goals
         go_enter Tryd.func47, Tryd.ntmps47
         go_wp2_with fail
         refine (c1 _).mono ?_
         rintro e w' ⟨rfl, rfl⟩
         go_wp2_with fail
         refine (c2 _).mono ?_
         rintro e w2 ⟨rfl, n2, rfl⟩
         go_wp2_with fail
         refine (c3 _).mono ?_
         rintro e w3 ⟨rfl, rfl⟩
         go_wp2_with fail
         refine (c4 _).mono ?_
         rintro e w4 ⟨rfl, rfl⟩
         go_wp2_with fail
         refine (c6 _).mono ?_
         rintro e w5 ⟨rfl, E5⟩
         go_wp2_with fail
         go_ret2
         exact ⟨ret_ii rfl rfl, ((Ext.refl _).drewN _).trans E5⟩
   · obtain ⟨z1, z2⟩ := HG2 (by omega)
     rw [z1, z2]
     rw [(wh_no (by omega)).1, (wh_no (by omega)).2] at c6
     clear HG2 HI2 z1 z2 hN
     cases D
     · go_enter Tryd.func47, Tryd.ntmps47
       go_wp2_with fail
       refine (c1 _).mono ?_
       rintro e w' ⟨rfl, rfl⟩
       go_wp2_with fail
       refine (c2 _).mono ?_
       rintro e w2 ⟨rfl, n2, rfl⟩
       go_wp2_with fail
       refine (c3 _).mono ?_
       rintro e w3 ⟨rfl, rfl⟩
       go_wp2_with fail
       refine (c6 _).mono ?_
       rintro e w5 ⟨rfl, E5⟩
       go_wp2_with fail
       go_ret2
       exact ⟨ret_ii rfl rfl, ((Ext.refl _).drewN _).trans E5⟩
     · obtain rfl : ob = true := by rcases hdob with h | h; cases h; exact h
       go_enter Tryd.func47, Tryd.ntmps47
       go_wp2_with fail
       refine (c1 _).mono ?_
       rintro e w' ⟨rfl, rfl⟩
       go_wp2_with fail
       refine (c2 _).mono ?_
       rintro e w2 ⟨rfl, n2, rfl⟩
       go_wp2_with fail
       refine (c3 _).mono ?_
       rintro e w3 ⟨rfl, rfl⟩
       go_wp2_with fail
       refine (c4 _).mono ?_
       rintro e w4 ⟨rfl, rfl⟩
       go_wp2_with fail
       refine (c6 _).mono ?_
       rintro e w5 ⟨rfl, E5⟩
       go_wp2_with fail
       go_ret2
       exact ⟨ret_ii rfl rfl, ((Ext.refl _).drewN _).trans E5⟩

open Go.RowKit
set_option maxHeartbeats 1000000

/-- The library's table of powers of ten is there. -/
def Tab (w : World) : Prop := Lib.TabIs Tryd.prog w "internal/strconv.uint64pow10" .u64 Lib.pow10Tab
theorem var_ext {P : Program} {w w' : World} {n : String} {cs : Array Value} (h : w.var? P n = some cs) (e : Ext w w') : w'.var? P n = some cs := by
 unfold World.var? at h ⊢
 cases hg : P.globalNamed n with
 | none => rw [hg] at h; cases h
 | some g =>
   rw [hg] at h
   simp only [Option.bind_some] at h ⊢
   by_cases hb : g < w.heap.size
   · rw [e.block g hb]; exact h
   · rw [show w.heap[g]? = none from by simp; omega] at h; cases h
theorem Tab.ext {w w' : World} (h : Tab w) (e : Ext w w') : Tab w' := var_ext h e

open Go.RowKit

/-- The bytes of a list. -/
def bs (l : List UInt8) : ByteArray := ⟨l.toArray⟩

open Go.RowKit
set_option maxHeartbeats 1000000

open Go.RowKit

open Go.RowKit
set_option maxHeartbeats 1000000


end Go.Proofs.YteaoeichgibgiaaDoor
