/-
  The contracts of strings.Cut at a dot, and of package num's parts.
-/
import Derived.Test.YtfppjnigbodphaaDoorDecA
import Derived.Test.YtfppjnigbodphaaDoorShelf
namespace Go.Proofs.YtfppjnigbodphaaDoor
open Go.RowKit
set_option maxHeartbeats 1000000

theorem index_dot (l : List UInt8) : (dotB l = true → Lib.indexByte l 46 = (cutA l).length ∧ l = cutA l ++ 46 :: cutB l) ∧ (dotB l = false → Lib.indexByte l 46 = -1 ∧ cutA l = l ∧ cutB l = []) := by
  induction l with
  | nil => simp [dotB, cutA, cutB, Lib.indexByte]
  | cons c l ih =>
    by_cases hc : c = 46
    · subst hc; simp [dotB, cutA, cutB, Lib.indexByte]
    · have hn : (c == 46) = false := by simpa using hc
      have hm : (c != 46) = true := by simpa using hc
      have e1 : dotB (c :: l) = dotB l := by simp [dotB, hn]
      have e2 : cutA (c :: l) = c :: cutA l := by simp [cutA, hm]
      have e3 : cutB (c :: l) = cutB l := by simp [cutB, hm]
      rw [e1, e2, e3]
      refine ⟨fun h => ?_, fun h => ?_⟩
      · obtain ⟨i1, i2⟩ := ih.1 h
        refine ⟨?_, by rw [List.cons_append, ← i2]⟩
        rw [Lib.indexByte, hn, i1]; simp
      · obtain ⟨i1, i2, i3⟩ := ih.2 h
        refine ⟨?_, by rw [i2], i3⟩
        rw [Lib.indexByte, hn, i1]; simp

theorem mkL (s : ByteArray) (l : List UInt8) (h : s.data.toList = l) : s = ⟨l.toArray⟩ := by rw [← h, Lib.mk_data]

theorem ret_ssb {a b c d : ByteArray} {x y : Bool} (h : a = c) (h' : b = d) (g : x = y) : Ending.returned (.tuple #[.string a, .string b, .bool x]) = .returned (.tuple #[.string c, .string d, .bool y]) := by rw [h, h', g]
theorem ret_s {a b : ByteArray} (h : a = b) : Ending.returned (.string a) = .returned (.string b) := by rw [h]
theorem cut_ahead (s : ByteArray) (A B : List UInt8) (c : UInt8) (k : Nat) (h : s.data.toList = A ++ c :: B) (hk : A.length = k) : s.extract 0 k = ⟨A.toArray⟩ := by
  apply mkL; rw [Lib.extract_data, h, ← hk]; simp
theorem cut_behind (s : ByteArray) (A B : List UInt8) (c : UInt8) (k : Nat) (h : s.data.toList = A ++ c :: B) (hk : A.length = k) : s.extract (k + 1) s.size = ⟨B.toArray⟩ := by
  apply mkL; rw [Lib.extract_data, ← size_list, h, ← hk]
  have e : A ++ c :: B = (A ++ [c]) ++ B := by simp
  rw [e, List.drop_append_of_le_length (by simp), List.drop_of_length_le (by simp), List.nil_append, List.take_of_length_le (by simp; omega)]

theorem lcut_any (s : ByteArray) (w : World) (hs : s.size ≤ maxLen) :
    Calls Tryd.prog 49 #[.string s, .string ⟨#[46]⟩] w fun e w' => e = .returned (.tuple #[.string ⟨(cutA s.data.toList).toArray⟩, .string ⟨(cutB s.data.toList).toArray⟩, .bool (dotB s.data.toList)]) ∧ ∃ n, w' = w.drewN n := by
  unfold maxLen at hs
  have hl := size_list s
  obtain ⟨hi, hj⟩ := index_dot s.data.toList
  cases hd : dotB s.data.toList
  · obtain ⟨i1, i2, i3⟩ := hj hd
    have H2 : Hid (cutA s.data.toList = s.data.toList) := i2
    have H3 : Hid (cutB s.data.toList = []) := i3
    clear hi hj i2 i3 hd
    go_enter Tryd.func49, Tryd.ntmps49
    go_wp2_with (go_at_call 53; refine (Tryd.stringslite_Index_one s 46 _).mono ?_; rintro e w' ⟨rfl, rfl⟩; rw [i1])
    go_ret3
    exact ⟨ret_ssb (by rw [H2.out, Lib.mk_data]) (by rw [H3.out]) rfl, 0, rfl⟩
  · obtain ⟨i1, i2⟩ := hi hd
    have H2 : Hid (s.data.toList = cutA s.data.toList ++ 46 :: cutB s.data.toList) := i2
    have hk : (cutA s.data.toList).length < s.size := by rw [← hl]; have := congrArg List.length i2; simp at this; omega
    generalize hkk : (cutA s.data.toList).length = k at *
    clear hi hj i2 hd
    go_enter Tryd.func49, Tryd.ntmps49
    go_wp2_with (go_at_call 53; refine (Tryd.stringslite_Index_one s 46 _).mono ?_; rintro e w' ⟨rfl, rfl⟩; rw [i1])
    have c1 : (0 : Int) ≤ ↑k := by omega
    have c2 : (↑k : Int) ≤ ↑s.size := by omega
    have c3 : (0 : Int) ≤ ↑k + 1 := by omega
    have c4 : (↑k + 1 : Int) ≤ ↑s.size := by omega
    go_region
    go_wp2
    go_ret3
    exact ⟨ret_ssb (cut_ahead s _ _ _ _ H2.out hkk) (cut_behind s _ _ _ _ H2.out hkk) rfl, 1, rfl⟩

theorem cut_any (s : ByteArray) (w : World) (hs : s.size ≤ maxLen) :
    Calls Tryd.prog 42 #[.string s, .string ⟨#[46]⟩] w fun e w' => e = .returned (.tuple #[.string ⟨(cutA s.data.toList).toArray⟩, .string ⟨(cutB s.data.toList).toArray⟩, .bool (dotB s.data.toList)]) ∧ ∃ n, w' = w.drewN n := by
  have c := fun W => lcut_any s W hs
  go_enter Tryd.func42, Tryd.ntmps42
  go_wp2_with fail
  refine (c _).mono ?_
  rintro e w' ⟨rfl, n, rfl⟩
  go_wp2
  go_ret3
  exact ⟨rfl, n, rfl⟩

theorem four_len (b : List UInt8) : (four b).length = 4 := by simp [four, zs]
theorem four_all (b : List UInt8) (h : b.all dgB = true) : (four b).all dgB = true := by
  rw [List.all_eq_true]
  intro x hx
  have := List.mem_of_mem_take hx
  rw [List.mem_append] at this
  rcases this with h1 | h1
  · exact List.all_eq_true.1 h x h1
  · exact List.all_eq_true.1 (all_zs 5) x h1
theorem app_list (a b : ByteArray) : (a ++ b).data.toList = a.data.toList ++ b.data.toList := by rw [ByteArray.data_append, Array.toList_append]
theorem add_one (V : Nat) (hV : V ≤ 9223372036854775807) : addV V 1 = whV (V + 1) ∧ addB V 1 = whB (V + 1) := by
  have hb : addB V 1 = whB (V + 1) := by
    unfold addB canB fitB whB
    rw [Bool.eq_iff_iff]
    simp
    omega
  refine ⟨?_, hb⟩
  unfold addV whV
  rw [hb]
  unfold whB
  by_cases h : V + 1 ≤ 9223372036854775807
  · simp [h]
  · simp [h]
theorem parts_any (a b : ByteArray) (w : World) (ha : a.size ≤ 40) (hb : b.size ≤ 40) (da : a.data.toList.all dgB = true) (db : b.data.toList.all dgB = true) :
    Calls Tryd.prog 44 #[.string a, .string b] w fun e w' => e = .returned (.tuple #[.int .i64 (whV (nv a.data.toList b.data.toList)), .bool (whB (nv a.data.toList b.data.toList))]) ∧ Ext w w' := by
  have e0 : (b ++ (⟨#[48, 48, 48, 48, 48]⟩ : ByteArray)).data.toList = b.data.toList ++ zs 5 := app_list _ _
  have e1 : (a ++ (b ++ (⟨#[48, 48, 48, 48, 48]⟩ : ByteArray)).extract 0 4).data.toList = a.data.toList ++ four b.data.toList := by
    rw [app_list, Lib.extract_data, e0]; rfl
  have hz : (b ++ (⟨#[48, 48, 48, 48, 48]⟩ : ByteArray)).size = b.size + 5 := by rw [ByteArray.size_append]; rfl
  have hz4 : 4 < (b ++ (⟨#[48, 48, 48, 48, 48]⟩ : ByteArray)).size := by omega
  have e2 : (b ++ (⟨#[48, 48, 48, 48, 48]⟩ : ByteArray))[4] = fifth b.data.toList := by
    unfold fifth; rw [← e0]
    have := get_list _ 4 hz4
    rw [← this, List.getD_eq_getElem?_getD, List.getElem?_eq_getElem (by rw [size_list]; exact hz4)]; rfl
  have c := fun W => whole_any (a ++ (b ++ (⟨#[48, 48, 48, 48, 48]⟩ : ByteArray)).extract 0 4) W (by rw [← size_list, e1, List.length_append, four_len, size_list]; omega) (by rw [e1, List.all_append, da, four_all _ db]; rfl)
  rw [e1] at c
  have HN : Hid (nv a.data.toList b.data.toList = val (a.data.toList ++ four b.data.toList) + (if 53 ≤ (fifth b.data.toList).toNat then 1 else 0)) := rfl
  rw [← e2] at HN
  clear e0 e1 e2 da db
  generalize val (a.data.toList ++ four b.data.toList) = V at *
  generalize nv a.data.toList b.data.toList = N at *
  by_cases hV : V ≤ 9223372036854775807
  · rw [(wh_yes hV).1, (wh_yes hV).2] at c
    have cA := fun W => add_any V 1 ⟨by omega, by omega⟩ ⟨by omega, by omega⟩ W
    by_cases h5 : (53 : Int) ≤ (b ++ (⟨#[48, 48, 48, 48, 48]⟩ : ByteArray))[4].toNat
    · go_enter Tryd.func44, Tryd.ntmps44
      go_wp2_with fail
      refine (c _).mono ?_
      rintro e w' ⟨rfl, rfl⟩
      go_wp2_with fail
      refine (cA _).mono ?_
      rintro e w1 ⟨rfl, E1⟩
      go_wp2_with fail
      go_ret2
      refine ⟨ret_ib ?_ ?_, E1⟩
      all_goals
        have hN : N = V + 1 := by have := HN.out; rw [if_pos (by omega)] at this; exact this
        rw [hN]
      · exact (add_one V hV).1
      · exact (add_one V hV).2
    · go_enter Tryd.func44, Tryd.ntmps44
      go_wp2_with fail
      refine (c _).mono ?_
      rintro e w' ⟨rfl, rfl⟩
      go_wp2_with fail
      go_ret2
      refine ⟨ret_ib ?_ ?_, Ext.refl _⟩
      all_goals
        have hN : N = V := by have := HN.out; rw [if_neg (by omega)] at this; exact this
        rw [hN]
      · exact (wh_yes hV).1.symm
      · exact (wh_yes hV).2.symm
  · rw [(wh_no (by omega)).1, (wh_no (by omega)).2] at c
    go_enter Tryd.func44, Tryd.ntmps44
    go_wp2_with fail
    refine (c _).mono ?_
    rintro e w' ⟨rfl, rfl⟩
    go_wp2_with fail
    go_ret2
    refine ⟨ret_ib ?_ ?_, Ext.refl _⟩
    all_goals have hN : 9223372036854775807 < N := by have := HN.out; omega
    · exact (wh_no hN).1.symm
    · exact (wh_no hN).2.symm
end Go.Proofs.YtfppjnigbodphaaDoor
