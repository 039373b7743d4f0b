/-
  The contracts of package lex's kinds of bytes, and of past.
-/
import Derived.Test.YtfppjnigbodphaaDoorLexN
import Derived.Test.YtfppjnigbodphaaDoorDecA
namespace Go.Proofs.YtfppjnigbodphaaDoor
open Go.RowKit
set_option maxHeartbeats 1000000

theorem isBlank_any (c : UInt8) (w : World) : Calls Tryd.prog 15 #[.int .u8 (c.toNat : Int)] w fun e w' => e = .returned (.bool (blB c)) ∧ w' = w := by
  have hb : ((c.toNat : Int) == 32) = blB c := by
    unfold blB; rw [Bool.eq_iff_iff]; simp; constructor
    · intro h; exact UInt8.toNat_inj.mp (by simp; omega)
    · rintro rfl; rfl
  have HB : Hid (((c.toNat : Int) == 32) = blB c) := hb
  clear hb
  go_enter Tryd.func15, Tryd.ntmps15
  go_wp2
  go_ret
  exact ⟨ret_bool HB.out, rfl⟩
theorem isDigit_any (c : UInt8) (w : World) : Calls Tryd.prog 22 #[.int .u8 (c.toNat : Int)] w fun e w' => e = .returned (.bool (dgB c)) ∧ w' = w := by
  by_cases h1 : (48 : Int) ≤ c.toNat
  · by_cases h2 : (c.toNat : Int) ≤ 57
    · have H : Hid (dgB c = true) := by show dgB c = true; unfold dgB; simp; omega
      go_enter Tryd.func22, Tryd.ntmps22
      go_wp2
      go_ret
      exact ⟨ret_bool H.out.symm, rfl⟩
    · have H : Hid (dgB c = false) := by show dgB c = false; unfold dgB; simp; omega
      go_enter Tryd.func22, Tryd.ntmps22
      go_wp2
      go_ret
      exact ⟨ret_bool H.out.symm, rfl⟩
  · have H : Hid (dgB c = false) := by show dgB c = false; unfold dgB; simp; omega
    go_enter Tryd.func22, Tryd.ntmps22
    go_wp2
    go_ret
    exact ⟨ret_bool H.out.symm, rfl⟩
theorem lt_no {c : UInt8} (h1 : ¬ ((65 : Int) ≤ c.toNat ∧ (c.toNat : Int) ≤ 90)) (h2 : ¬ ((97 : Int) ≤ c.toNat ∧ (c.toNat : Int) ≤ 122)) : ltB c = ((c.toNat : Int) == 36) := by
  unfold ltB; rw [Bool.eq_iff_iff]; simp; omega
theorem lt_yes {c : UInt8} (h : ((65 : Int) ≤ c.toNat ∧ (c.toNat : Int) ≤ 90) ∨ ((97 : Int) ≤ c.toNat ∧ (c.toNat : Int) ≤ 122)) : ltB c = true := by
  unfold ltB; simp; omega
theorem begins_any (c : UInt8) (w : World) : Calls Tryd.prog 25 #[.int .u8 (c.toNat : Int)] w fun e w' => e = .returned (.bool (ltB c)) ∧ w' = w := by
  by_cases h1 : (65 : Int) ≤ c.toNat
  · by_cases h2 : (c.toNat : Int) ≤ 90
    · have H : Hid (ltB c = true) := lt_yes (by omega)
      go_enter Tryd.func25, Tryd.ntmps25
      go_wp2
      go_ret
      exact ⟨ret_bool H.out.symm, rfl⟩
    · by_cases h3 : (97 : Int) ≤ c.toNat
      · by_cases h4 : (c.toNat : Int) ≤ 122
        · have H : Hid (ltB c = true) := lt_yes (by omega)
          go_enter Tryd.func25, Tryd.ntmps25
          go_wp2
          go_ret
          exact ⟨ret_bool H.out.symm, rfl⟩
        · have H : Hid (ltB c = ((c.toNat : Int) == 36)) := lt_no (by omega) (by omega)
          go_enter Tryd.func25, Tryd.ntmps25
          go_wp2
          go_ret
          exact ⟨ret_bool H.out.symm, rfl⟩
      · have H : Hid (ltB c = ((c.toNat : Int) == 36)) := lt_no (by omega) (by omega)
        go_enter Tryd.func25, Tryd.ntmps25
        go_wp2
        go_ret
        exact ⟨ret_bool H.out.symm, rfl⟩
  · have h3 : ¬ (97 : Int) ≤ c.toNat := by omega
    have H : Hid (ltB c = ((c.toNat : Int) == 36)) := lt_no (by omega) (by omega)
    go_enter Tryd.func25, Tryd.ntmps25
    go_wp2
    go_ret
    exact ⟨ret_bool H.out.symm, rfl⟩
theorem inWord_any (c : UInt8) (w : World) : Calls Tryd.prog 34 #[.int .u8 (c.toNat : Int)] w fun e w' => e = .returned (.bool (inW c)) ∧ w' = w := by
  have c1 := fun W => begins_any c W
  have c2 := fun W => isDigit_any c W
  have hb : ((c.toNat : Int) == 95) = (c == 95) := by
    rw [Bool.eq_iff_iff]; simp; constructor
    · intro h; exact UInt8.toNat_inj.mp (by simp; omega)
    · rintro rfl; rfl
  have HB : Hid (((c.toNat : Int) == 95) = (c == 95)) := hb
  clear hb
  cases h1 : ltB c
  · rw [h1] at c1
    cases h2 : dgB c
    · rw [h2] at c2
      have H : Hid (inW c = ((c.toNat : Int) == 95)) := by show _ = _; unfold inW; rw [h1, h2, HB.out]; rfl
      clear h1 h2
      go_enter Tryd.func34, Tryd.ntmps34
      go_wp2_with fail
      refine (c1 _).mono ?_
      rintro e w1 ⟨rfl, rfl⟩
      go_wp2_with fail
      refine (c2 _).mono ?_
      rintro e w1 ⟨rfl, rfl⟩
      go_wp2_with fail
      go_ret
      exact ⟨ret_bool H.out.symm, rfl⟩
    · rw [h2] at c2
      have H : Hid (inW c = true) := by show _ = _; unfold inW; rw [h1, h2]; rfl
      clear h1 h2
      go_enter Tryd.func34, Tryd.ntmps34
      go_wp2_with fail
      refine (c1 _).mono ?_
      rintro e w1 ⟨rfl, rfl⟩
      go_wp2_with fail
      refine (c2 _).mono ?_
      rintro e w1 ⟨rfl, rfl⟩
      go_wp2_with fail
      go_ret
      exact ⟨ret_bool H.out.symm, rfl⟩
  · rw [h1] at c1
    have H : Hid (inW c = true) := by show _ = _; unfold inW; rw [h1]; rfl
    clear h1
    go_enter Tryd.func34, Tryd.ntmps34
    go_wp2_with fail
    refine (c1 _).mono ?_
    rintro e w1 ⟨rfl, rfl⟩
    go_wp2_with fail
    go_ret
    exact ⟨ret_bool H.out.symm, rfl⟩

theorem run_at (p : UInt8 → Bool) (l : List UInt8) (k : Nat) (hk : k < l.length) : run p (l.drop k) = if p l[k] then run p (l.drop (k + 1)) + 1 else 0 := by
  rw [List.drop_eq_getElem_cons hk, run_cons]
theorem run_off (p : UInt8 → Bool) (l : List UInt8) (k : Nat) (hk : l.length ≤ k) : run p (l.drop k) = 0 := by
  rw [List.drop_eq_nil_of_le hk]; rfl
/-- past, by whichever kind of bytes. -/
theorem past_any (K : FuncId) (p : UInt8 → Bool) (hent : ∀ args W, (callFunc K args).run Tryd.prog W = .ok (.enter K args) W) (hK : ∀ (c : UInt8) (W : World), Calls Tryd.prog K #[.int .u8 (c.toNat : Int)] W fun e w' => e = .returned (.bool (p c)) ∧ w' = W)
    (s : ByteArray) (k : Nat) (w : World) (hk : k ≤ s.size) (hs : s.size ≤ 300) :
    Calls Tryd.prog 14 #[.string s, .int .i64 (k : Int), .func (.func K) #[] #[]] w fun e w' => e = .returned (.int .i64 ((k + run p (s.data.toList.drop k) : Nat) : Int)) ∧ w' = w := by
  have hl := size_list s
  have HS : Hid (s.data.toList.length = s.size) := hl
  have HK : Hid (∀ (c : UInt8) (W : World), Calls Tryd.prog K #[.int .u8 (c.toNat : Int)] W fun e w' => e = .returned (.bool (p c)) ∧ w' = W) := hK
  clear hK hl
  go_enter Tryd.func14, Tryd.ntmps14
  go_wp2
  go_loop [1] (fun i => ∃ j : Nat, j ≤ s.size ∧ i = .int .i64 j ∧ k + run p (s.data.toList.drop k) = j + run p (s.data.toList.drop j)) (fun i => s.size - (intOf i).toNat)
  case atStart => exact ⟨k, hk, rfl, rfl⟩
  case round =>
    obtain ⟨j, hj, rfl, ha⟩ := hrel
    have HA : Hid (k + run p (s.data.toList.drop k) = j + run p (s.data.toList.drop j)) := ha
    clear ha hk
    by_cases hlt : j < s.size
    · have HT : Hid (run p (s.data.toList.drop j) = if p s[j] then run p (s.data.toList.drop (j + 1)) + 1 else 0) := run_at p s.data.toList j (by have := HS.out; omega)
      have c1 := fun W => HK.out s[j] W
      cases hp : p s[j]
      · rw [hp] at c1
        have HP : Hid (p s[j] = false) := hp
        clear hp
        go_wp2_with fail
        refine (c1 _).mono ?_
        rintro e w1 ⟨rfl, rfl⟩
        go_wp2_with fail
        go_ret
        refine ⟨ret_int ?_, rfl⟩
        rw [HA.out, HT.out, HP.out]; simp
      · rw [hp] at c1
        have HP : Hid (p s[j] = true) := hp
        clear hp
        go_wp2_with fail
        refine (c1 _).mono ?_
        rintro e w1 ⟨rfl, rfl⟩
        go_wp2_with fail
        go_round
        case rel => exact ⟨j + 1, by omega, by go_num, by rw [HA.out, HT.out, HP.out]; simp; omega⟩
        case measure => simp [intOf]; omega
    · have HT : Hid (run p (s.data.toList.drop j) = 0) := run_off p s.data.toList j (by have := HS.out; omega)
      go_wp2_with fail
      go_ret
      refine ⟨ret_int ?_, rfl⟩
      have h1 := HA.out
      have h2 := HT.out
      omega
theorem past_blank (s : ByteArray) (k : Nat) (w : World) (hk : k ≤ s.size) (hs : s.size ≤ 300) :
    Calls Tryd.prog 14 #[.string s, .int .i64 (k : Int), .func (.func 15) #[] #[]] w fun e w' => e = .returned (.int .i64 ((k + run blB (s.data.toList.drop k) : Nat) : Int)) ∧ w' = w :=
  past_any _ _ (enters_of Tryd.func15 (by kernel_rfl) rfl) isBlank_any s k w hk hs
theorem past_digit (s : ByteArray) (k : Nat) (w : World) (hk : k ≤ s.size) (hs : s.size ≤ 300) :
    Calls Tryd.prog 14 #[.string s, .int .i64 (k : Int), .func (.func 22) #[] #[]] w fun e w' => e = .returned (.int .i64 ((k + run dgB (s.data.toList.drop k) : Nat) : Int)) ∧ w' = w :=
  past_any _ _ (enters_of Tryd.func22 (by kernel_rfl) rfl) isDigit_any s k w hk hs
theorem past_word (s : ByteArray) (k : Nat) (w : World) (hk : k ≤ s.size) (hs : s.size ≤ 300) :
    Calls Tryd.prog 14 #[.string s, .int .i64 (k : Int), .func (.func 34) #[] #[]] w fun e w' => e = .returned (.int .i64 ((k + run inW (s.data.toList.drop k) : Nat) : Int)) ∧ w' = w :=
  past_any _ _ (enters_of Tryd.func34 (by kernel_rfl) rfl) inWord_any s k w hk hs
end Go.Proofs.YtfppjnigbodphaaDoor
