/-
  The contract of package num's Parse.
-/
import Derived.Test.YtfppjnigbodphaaDoorDecB
namespace Go.Proofs.YtfppjnigbodphaaDoor
open Go.RowKit
set_option maxHeartbeats 1000000

theorem pre_minus (l : List UInt8) : Lib.hasPrefix l [45] = minusB l ∧ Lib.trimPrefix l [45] = sizeL l := by
  cases l with
  | nil => exact ⟨rfl, rfl⟩
  | cons c l =>
    have e : Lib.hasPrefix (c :: l) [45] = minusB (c :: l) := by
      simp [Lib.hasPrefix, minusB, List.isPrefixOf]
      by_cases h : c = 45
      · subst h; rfl
      · have h1 : (45 == c) = false := by simpa using fun e => h e.symm
        have h2 : (c == 45) = false := by simpa using h
        rw [h1, h2]
    refine ⟨e, ?_⟩
    unfold Lib.trimPrefix sizeL
    rw [e]
    rfl
theorem okD_bd {l : List UInt8} (h : okD l = true) : l.length ≤ 40 ∧ l.all dgB = true := by
  unfold okD at h; rw [Bool.and_eq_true] at h; exact ⟨by have := h.1; simp at this; omega, h.2⟩
theorem no_num {l : List UInt8} (h : numB l = false) : rdV l = 0 ∧ rdK l = 0 := by unfold rdV rdK; rw [h]; exact ⟨rfl, rfl⟩
theorem num_great {l : List UInt8} (h : numB l = true) (g : 9223372036854775807 < numN l) : rdV l = 0 ∧ rdK l = 2 := by
  unfold rdV rdK; rw [h]; have : decide (numN l ≤ 9223372036854775807) = false := by simp; omega
  rw [this]; exact ⟨rfl, by rw [if_pos rfl, if_neg (by omega)]⟩
theorem num_is {l : List UInt8} (h : numB l = true) (g : numN l ≤ 9223372036854775807) : rdV l = (if minusB l then -(numN l : Int) else numN l) ∧ rdK l = 1 := by
  unfold rdV rdK; rw [h]; have : decide (numN l ≤ 9223372036854775807) = true := by simp; omega
  rw [this]; exact ⟨rfl, by rw [if_pos rfl, if_pos g]⟩
theorem cut_short (l : List UInt8) : (cutA l).length ≤ l.length ∧ (cutB l).length ≤ l.length ∧ (dotB l = false → cutB l = []) := by
  obtain ⟨h1, h2⟩ := index_dot l
  cases hd : dotB l
  · obtain ⟨_, a, b⟩ := h2 hd
    rw [a, b]; simp
  · obtain ⟨_, a⟩ := h1 hd
    have := congrArg List.length a
    simp at this
    exact ⟨by omega, by omega, fun h => by cases h⟩

theorem parse_any (s : ByteArray) (w : World) (hs : s.size ≤ maxLen) :
    Calls Tryd.prog 31 #[.string s] w fun e w' => e = .returned (.tuple #[.int .i64 (rdV s.data.toList), .int .i64 (rdK s.data.toList)]) ∧ Ext w w' := by
  unfold maxLen at hs
  have hl := size_list s
  obtain ⟨p1, p2⟩ := pre_minus s.data.toList
  have c1 := fun W => Tryd.strings_CutPrefix s ⟨#[45]⟩ W
  simp only [p1, p2] at c1
  clear p1 p2
  have hr : (sizeL s.data.toList).length ≤ s.size := by
    rw [← hl]; unfold sizeL; split
    · simp
    · exact Nat.le_refl _
  have hA : Hid (numB s.data.toList = (okD (cutA (sizeL s.data.toList)) && (!dotB (sizeL s.data.toList) || okD (cutB (sizeL s.data.toList))))) := rfl
  have hN : Hid (numN s.data.toList = nv (cutA (sizeL s.data.toList)) (cutB (sizeL s.data.toList))) := rfl
  obtain ⟨k1, k2, k3⟩ := cut_short (sizeL s.data.toList)
  have c2 := fun W => cut_any ⟨(sizeL s.data.toList).toArray⟩ W (by unfold maxLen; rw [← size_list]; show (sizeL s.data.toList).length ≤ _; omega)
  simp only at c2
  have c3 := fun W => digits_any ⟨(cutA (sizeL s.data.toList)).toArray⟩ W (by unfold maxLen; rw [← size_list]; show (cutA (sizeL s.data.toList)).length ≤ _; omega)
  have c4 := fun W => digits_any ⟨(cutB (sizeL s.data.toList)).toArray⟩ W (by unfold maxLen; rw [← size_list]; show (cutB (sizeL s.data.toList)).length ≤ _; omega)
  simp only at c3 c4
  have c5 : okD (cutA (sizeL s.data.toList)) = true → (dotB (sizeL s.data.toList) = false ∨ okD (cutB (sizeL s.data.toList)) = true) → ∀ W, Calls Tryd.prog 44 #[.string ⟨(cutA (sizeL s.data.toList)).toArray⟩, .string ⟨(cutB (sizeL s.data.toList)).toArray⟩] W fun e w' => e = .returned (.tuple #[.int .i64 (whV (numN s.data.toList)), .bool (whB (numN s.data.toList))]) ∧ Ext W w' := by
    intro h1 h2 W
    have hb : (cutB (sizeL s.data.toList)).length ≤ 40 ∧ (cutB (sizeL s.data.toList)).all dgB = true := by
      rcases h2 with h2 | h2
      · rw [k3 h2]; exact ⟨by simp, rfl⟩
      · exact okD_bd h2
    rw [hN.out]
    exact parts_any _ _ W (by rw [← size_list]; exact (okD_bd h1).1) (by rw [← size_list]; exact hb.1) (okD_bd h1).2 hb.2
  generalize cutA (sizeL s.data.toList) = A at *
  generalize cutB (sizeL s.data.toList) = B at *
  generalize dotB (sizeL s.data.toList) = D at *
  generalize sizeL s.data.toList = R at *
  generalize hoa : okD A = oa at *
  generalize hob : okD B = ob at *
  clear hoa hob k1 k2 k3 hr
  have HG := fun h g => @num_great s.data.toList h g
  have HI := fun h g => @num_is s.data.toList h g
  have HZ := fun h => @no_num s.data.toList h
  generalize hnn : numN s.data.toList = N at *
  generalize hmm : minusB s.data.toList = M at *
  have HGh : Hid (numB s.data.toList = true → 9223372036854775807 < N → rdV s.data.toList = 0 ∧ rdK s.data.toList = 2) := HG
  have HIh : Hid (numB s.data.toList = true → N ≤ 9223372036854775807 → rdV s.data.toList = (if M then -(N : Int) else N) ∧ rdK s.data.toList = 1) := HI
  have HZh : Hid (numB s.data.toList = false → rdV s.data.toList = 0 ∧ rdK s.data.toList = 0) := HZ
  clear HG HI HZ hnn hmm hN hl
  have hdec : (oa = false ∨ (oa = true ∧ D = true ∧ ob = false)) ∨ (oa = true ∧ (D = false ∨ ob = true)) := by
    cases oa <;> cases D <;> cases ob <;> simp
  rcases hdec with hdec | ⟨hoa, hdob⟩
  · have hz : numB s.data.toList = false := by
      rw [hA.out]; rcases hdec with h | ⟨h1, h2, h3⟩
      · rw [h]; rfl
      · rw [h1, h2, h3]; rfl
    obtain ⟨z1, z2⟩ := HZh.out hz
    rw [z1, z2]
    clear c5 HGh HIh HZh hA hz
    rcases hdec with h | ⟨h1, h2, h3⟩
    · subst h
      go_enter Tryd.func31, Tryd.ntmps31
      go_wp2_with fail
      refine (c1 _).mono ?_
      rintro e w' ⟨rfl, rfl⟩
      go_wp2_with fail
      refine (c2 _).mono ?_
      rintro e w2 ⟨rfl, n2, rfl⟩
      go_wp2_with fail
      refine (c3 _).mono ?_
      rintro e w3 ⟨rfl, rfl⟩
      go_wp2_with fail
      go_ret2
      exact ⟨ret_ii rfl rfl, (Ext.refl _).drewN _⟩
    · subst h1; subst h2; subst h3
      go_enter Tryd.func31, Tryd.ntmps31
      go_wp2_with fail
      refine (c1 _).mono ?_
      rintro e w' ⟨rfl, rfl⟩
      go_wp2_with fail
      refine (c2 _).mono ?_
      rintro e w2 ⟨rfl, n2, rfl⟩
      go_wp2_with fail
      refine (c3 _).mono ?_
      rintro e w3 ⟨rfl, rfl⟩
      go_wp2_with fail
      refine (c4 _).mono ?_
      rintro e w4 ⟨rfl, rfl⟩
      go_wp2_with fail
      go_ret2
      exact ⟨ret_ii rfl rfl, (Ext.refl _).drewN _⟩
  · have hz : numB s.data.toList = true := by
      rw [hA.out, hoa]; rcases hdob with h | h
      · rw [h]; rfl
      · rw [h]; simp
    have c6 := c5 hoa hdob
    have HG2 := HGh.out hz
    have HI2 := HIh.out hz
    subst hoa
    clear c5 HGh HIh HZh hA hz
    by_cases hN : N ≤ 9223372036854775807
    · obtain ⟨z1, z2⟩ := HI2 hN
      rw [z1, z2]
      rw [(wh_yes hN).1, (wh_yes hN).2] at c6
      have hN1 : (N : Int) ≤ 9223372036854775807 := by omega
      clear HG2 HI2 z1 z2 hN
      cases D
      · cases M
        all_goals
          go_enter Tryd.func31, Tryd.ntmps31
          go_wp2_with fail
          refine (c1 _).mono ?_
          rintro e w' ⟨rfl, rfl⟩
          go_wp2_with fail
          refine (c2 _).mono ?_
          rintro e w2 ⟨rfl, n2, rfl⟩
          go_wp2_with fail
          refine (c3 _).mono ?_
          rintro e w3 ⟨rfl, rfl⟩
          go_wp2_with fail
          refine (c6 _).mono ?_
          rintro e w5 ⟨rfl, E5⟩
          go_wp2_with fail
          go_ret2
          exact ⟨ret_ii rfl rfl, ((Ext.refl _).drewN _).trans E5⟩
      · obtain rfl : ob = true := by rcases hdob with h | h; cases h; exact h
        cases M
        all_goals
          go_enter Tryd.func31, Tryd.ntmps31
          go_wp2_with fail
          refine (c1 _).mono ?_
          rintro e w' ⟨rfl, rfl⟩
          go_wp2_with fail
          refine (c2 _).mono ?_
          rintro e w2 ⟨rfl, n2, rfl⟩
          go_wp2_with fail
          refine (c3 _).mono ?_
          rintro e w3 ⟨rfl, rfl⟩
          go_wp2_with fail
          refine (c4 _).mono ?_
          rintro e w4 ⟨rfl, rfl⟩
          go_wp2_with fail
          refine (c6 _).mono ?_
          rintro e w5 ⟨rfl, E5⟩
          go_wp2_with fail
          go_ret2
          exact ⟨ret_ii rfl rfl, ((Ext.refl _).drewN _).trans E5⟩
    · obtain ⟨z1, z2⟩ := HG2 (by omega)
      rw [z1, z2]
      rw [(wh_no (by omega)).1, (wh_no (by omega)).2] at c6
      clear HG2 HI2 z1 z2 hN
      cases D
      · go_enter Tryd.func31, Tryd.ntmps31
        go_wp2_with fail
        refine (c1 _).mono ?_
        rintro e w' ⟨rfl, rfl⟩
        go_wp2_with fail
        refine (c2 _).mono ?_
        rintro e w2 ⟨rfl, n2, rfl⟩
        go_wp2_with fail
        refine (c3 _).mono ?_
        rintro e w3 ⟨rfl, rfl⟩
        go_wp2_with fail
        refine (c6 _).mono ?_
        rintro e w5 ⟨rfl, E5⟩
        go_wp2_with fail
        go_ret2
        exact ⟨ret_ii rfl rfl, ((Ext.refl _).drewN _).trans E5⟩
      · obtain rfl : ob = true := by rcases hdob with h | h; cases h; exact h
        go_enter Tryd.func31, Tryd.ntmps31
        go_wp2_with fail
        refine (c1 _).mono ?_
        rintro e w' ⟨rfl, rfl⟩
        go_wp2_with fail
        refine (c2 _).mono ?_
        rintro e w2 ⟨rfl, n2, rfl⟩
        go_wp2_with fail
        refine (c3 _).mono ?_
        rintro e w3 ⟨rfl, rfl⟩
        go_wp2_with fail
        refine (c4 _).mono ?_
        rintro e w4 ⟨rfl, rfl⟩
        go_wp2_with fail
        refine (c6 _).mono ?_
        rintro e w5 ⟨rfl, E5⟩
        go_wp2_with fail
        go_ret2
        exact ⟨ret_ii rfl rfl, ((Ext.refl _).drewN _).trans E5⟩
end Go.Proofs.YtfppjnigbodphaaDoor
