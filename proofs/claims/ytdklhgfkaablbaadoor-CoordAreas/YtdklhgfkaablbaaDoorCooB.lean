/-
  The contracts of package coord's and the document's ColName and ColNumber.
-/
import Derived.Test.YtdklhgfkaablbaaDoorCooA
import Derived.Laws.Runes
namespace Go.Proofs.YtdklhgfkaablbaaDoor
open Go.RowKit
set_option maxHeartbeats 1000000

theorem ret_s' {a b : ByteArray} (h : a = b) : Ending.returned (.string a) = .returned (.string b) := by rw [h]
theorem app_list' (a b : ByteArray) : (a ++ b).data.toList = a.data.toList ++ b.data.toList := by rw [ByteArray.data_append, Array.toList_append]
theorem bytes_eq {a b : ByteArray} (h : a.data.toList = b.data.toList) : a = b := by rw [← Lib.mk_data a, ← Lib.mk_data b, h]
theorem app_none (a : ByteArray) : a ++ ⟨#[]⟩ = a := bytes_eq (by rw [app_list']; simp)
theorem enc_ltr (n : Nat) (h : n < 26) : Utf8.encode ((65 + n : Nat) : Int) = ⟨#[UInt8.ofNat (65 + n)]⟩ := by
  have hv : Utf8.valid ((65 + n : Nat) : Int) = true := by simp [Utf8.valid]; omega
  unfold Utf8.encode
  simp only [hv, if_true, Int.toNat_natCast]
  rw [if_pos (by omega)]
theorem colname_any (c : Int) (hc : I64 c) (w : World) :
    Calls Tryd.prog 16 #[.int .i64 c] w fun e w' => e = .returned (.string ⟨(nameL c).toArray⟩) ∧ w' = w := by
  obtain ⟨b1, b2⟩ := hc
  have k := fun W => iscol_any c W
  cases hb : colB c
  · rw [hb] at k
    have HN : Hid (nameL c = []) := by show nameL c = []; unfold nameL; rw [hb]; rfl
    go_enter Tryd.func16, Tryd.ntmps16
    go_wp2_with fail
    refine (k _).mono ?_
    rintro e w' ⟨rfl, rfl⟩
    go_wp2_with fail
    go_ret
    exact ⟨ret_s' (by rw [HN.out]), rfl⟩
  · rw [hb] at k
    have hb' := hb
    unfold colB at hb'
    simp at hb'
    obtain ⟨c1, c2⟩ := hb'
    obtain ⟨n, hn⟩ : ∃ n : Nat, c = (n : Int) + 1 := ⟨(c - 1).toNat, by omega⟩
    subst hn
    have n1 : (n : Int) ≤ 51 := by omega
    have n0 : (0 : Int) ≤ n := by omega
    have HN1 : Hid (n < 26 → nameL ((n : Int) + 1) = [UInt8.ofNat (65 + n % 26)]) := by
      show _ → _; intro h; unfold nameL; rw [hb, if_pos rfl, if_pos (by omega)]; unfold ltr; congr 3 
    have HN2 : Hid (¬ n < 26 → nameL ((n : Int) + 1) = [65, UInt8.ofNat (65 + n % 26)]) := by
      show _ → _; intro h; unfold nameL; rw [hb, if_pos rfl, if_neg (by omega)]; unfold ltr; congr 4
    have e1 := enc_ltr (n % 26) (by omega)
    have e2 := enc_ltr 0 (by omega)
    generalize hA : (⟨#[UInt8.ofNat (65 + n % 26)]⟩ : ByteArray) = A at e1
    have hAs : A.size = 1 := by rw [← hA]; rfl
    have HA : Hid (A.data.toList = [UInt8.ofNat (65 + n % 26)]) := by show _ = _; rw [← hA]
    generalize hB : (⟨#[UInt8.ofNat (65 + 0)]⟩ : ByteArray) = B at e2
    have hBs : B.size = 1 := by rw [← hB]; rfl
    have HB : Hid (B.data.toList = [65]) := by show _ = _; rw [← hB]; rfl
    have x1 : ((65 + n % 26 : Nat) : Int) = 65 + (n : Int) % 26 := by omega
    rw [x1] at e1
    rw [show ((65 + 0 : Nat) : Int) = 65 from rfl] at e2
    clear hA hB hb x1 c1 c2 b1 b2
    go_enter Tryd.func16, Tryd.ntmps16
    go_wp2_with fail
    refine (k _).mono ?_
    rintro e w' ⟨rfl, rfl⟩
    go_wp2_with fail
    go_loop [0, 3] (fun v0 v3 => (v0 = .int .i64 ((n : Int) + 1) ∧ v3 = .string ⟨#[]⟩) ∨ (26 ≤ n ∧ v0 = .int .i64 1 ∧ v3 = .string A) ∨ (v0 = .int .i64 0 ∧ ∃ q : ByteArray, v3 = .string q ∧ q.data.toList = nameL ((n : Int) + 1))) (fun v0 _ => (intOf v0).toNat)
    case atStart => exact .inl ⟨rfl, rfl⟩
    case round =>
      rcases hrel with ⟨rfl, rfl⟩ | ⟨hm, rfl, rfl⟩ | ⟨rfl, q, rfl, hq⟩
      · have z : (⟨#[]⟩ : ByteArray).size = 0 := rfl
        go_wp2_with fail
        rw [app_none]
        refine ⟨?_, by simp [intOf]; omega⟩
        by_cases h : n < 26
        · exact .inr (.inr ⟨by rw [show (n : Int) / 26 = 0 from by omega], A, rfl, by rw [HA.out, HN1.out h]⟩)
        · exact .inr (.inl ⟨by omega, by rw [show (n : Int) / 26 = 1 from by omega], rfl⟩)
      · have HM : Hid (¬ n < 26) := by show ¬ _; omega
        clear hm
        go_wp2_with fail
        exact ⟨.inr (.inr ⟨rfl, B ++ A, rfl, by rw [app_list', HA.out, HB.out, HN2.out HM.out]; rfl⟩), by simp [intOf]⟩
      · have HQ : Hid (q.data.toList = nameL ((n : Int) + 1)) := hq
        clear hq
        go_wp2_with fail
        go_ret
        exact ⟨ret_s' (by rw [← HQ.out, Lib.mk_data]), rfl⟩
theorem conv_ltr (x : UInt8) (w : World) : (convert 49 9 (.slice (some ⟨w.heap.size, 0, none⟩) 1 1)).run Tryd.prog (w.alloc (.cells #[.int .u8 x.toNat] 5)) = .ok (.string ⟨#[x]⟩) (w.alloc (.cells #[.int .u8 x.toNat] 5)) := by
  have := run_convert_bytes_arg (P := Tryd.prog) (w.alloc (.cells #[.int .u8 x.toNat] 5)) 49 5 Tryd.underlying49 Tryd.underlying5 w.heap.size 0 1 1 [(x.toNat : Int)] rfl (fun i hi => by
    obtain rfl : i = 0 := by omega
    simp) 9 Tryd.underlying9
  rw [this]
  simp [strOfNums]
def abc : ByteArray := ⟨#[65, 66, 67, 68, 69, 70, 71, 72, 73, 74, 75, 76, 77, 78, 79, 80, 81, 82, 83, 84, 85, 86, 87, 88, 89, 90]⟩
theorem abc_at : ∀ i : Fin 26, abc[i.val]'(i.isLt) = UInt8.ofNat (65 + i.val) := by decide +kernel
set_option maxRecDepth 100000 in
theorem rcolname_any (c : Int) (hc : I64 c) (w : World) :
    Calls Tryd.prog 17 #[.int .i64 c] w fun e w' => e = .returned (.string ⟨(nameL c).toArray⟩) ∧ Ext w w' := by
  obtain ⟨b1, b2⟩ := hc
  by_cases c1 : c < 1
  · have HN : Hid (nameL c = []) := by show nameL c = []; unfold nameL colB; rw [if_neg (by simp; omega)]
    have h3 : decide (c < 1) = true := by simpa using c1
    go_enter Tryd.func17, Tryd.ntmps17
    go_wp2_with fail
    go_ret
    exact ⟨ret_s' (by rw [HN.out]), Ext.refl _⟩
  have h3 : decide (c < 1) = false := by simpa using c1
  by_cases c2 : 52 < c
  · have HN : Hid (nameL c = []) := by show nameL c = []; unfold nameL colB; rw [if_neg (by simp; omega)]
    have h4 : decide (52 < c) = true := by simpa using c2
    go_enter Tryd.func17, Tryd.ntmps17
    go_wp2_with fail
    go_ret
    exact ⟨ret_s' (by rw [HN.out]), Ext.refl _⟩
  have h4 : decide (52 < c) = false := by simpa using c2
  obtain ⟨n, hn⟩ : ∃ n : Nat, c = (n : Int) + 1 := ⟨(c - 1).toNat, by omega⟩
  subst hn
  have n1 : (n : Int) ≤ 51 := by omega
  have n0 : (0 : Int) ≤ n := by omega
  have HN1 : Hid (n < 26 → nameL ((n : Int) + 1) = [UInt8.ofNat (65 + n % 26)]) := by
    show _ → _; intro h; unfold nameL colB; rw [if_pos (by simp; omega), if_pos (by omega)]; unfold ltr; congr 3
  have HN2 : Hid (¬ n < 26 → nameL ((n : Int) + 1) = [65, UInt8.ofNat (65 + n % 26)]) := by
    show _ → _; intro h; unfold nameL colB; rw [if_pos (by simp; omega), if_neg (by omega)]; unfold ltr; congr 4
  generalize hx : UInt8.ofNat (65 + n % 26) = x at HN1 HN2
  have cv := conv_ltr x w
  generalize hX : (⟨#[x]⟩ : ByteArray) = X at cv
  have CV : Hid (_ = _) := cv
  have hXs : X.size = 1 := by rw [← hX]; rfl
  have HX : Hid (X.data.toList = [x]) := by show _ = _; rw [← hX]
  obtain ⟨k, hk⟩ : ∃ k : Nat, k = n % 26 := ⟨_, rfl⟩
  have hk1 : (n : Int) % 26 = (k : Int) := by omega
  have hk2 : (k : Int) < 26 := by omega
  have hk0 : (0 : Int) ≤ k := by omega
  obtain ⟨S, hS⟩ : ∃ S : ByteArray, abc = S := ⟨_, rfl⟩
  have hSs : S.size = 26 := by rw [← hS]; rfl
  have hlt : k < S.size := by omega
  have hSk : S[k]'hlt = x := by
    subst hS
    rw [← hx, ← hk]
    exact abc_at ⟨k, by omega⟩
  unfold abc at hS
  clear hx hX cv c1 c2 b1 b2 hk
  go_enter Tryd.func17, Tryd.ntmps17
  go_wp2_with fail
  rw [CV.out]
  by_cases h : n < 26
  · have HL : Hid (nameL ((n : Int) + 1) = [x]) := HN1.out h
    have h5 : (n : Int) + 1 ≤ 26 := by omega
    clear h
    go_wp2_with fail
    go_ret
    exact ⟨ret_s' (by rw [HL.out, ← HX.out, Lib.mk_data]), (Ext.refl _).alloc _⟩
  · have HL : Hid (nameL ((n : Int) + 1) = [65, x]) := HN2.out h
    have h5 : (26 : Int) < (n : Int) + 1 := by omega
    clear h
    go_wp2_with fail
    go_ret
    exact ⟨ret_s' (bytes_eq (by rw [HL.out, app_list', HX.out]; rfl)), (Ext.refl _).alloc _⟩

/-- A name's column up to a letter. -/
theorem colF_take (l : List UInt8) (k n : Nat) (hk : k < l.length) : colF n (l.drop k) = if ltB l[k] && decide (26 * n + (l[k].toNat - 64) ≤ 52) then colF (26 * n + (l[k].toNat - 64)) (l.drop (k + 1)) else 0 := by
  rw [List.drop_eq_getElem_cons hk]
  rfl
theorem lt_no {c : UInt8} (h : (c.toNat : Int) < 65 ∨ (90 : Int) < c.toNat) : ltB c = false := by unfold ltB; simp; omega
theorem lt_yes {c : UInt8} (h : ¬ (c.toNat : Int) < 65) (h' : ¬ (90 : Int) < c.toNat) : ltB c = true := by unfold ltB; simp; omega
theorem colnumber_any (s : ByteArray) (w : World) (hs : s.size ≤ maxLen) :
    Calls Tryd.prog 18 #[.string s] w fun e w' => e = .returned (.int .i64 (colN s.data.toList)) ∧ w' = w := by
  unfold maxLen at hs
  have hl := size_list s
  go_enter Tryd.func18, Tryd.ntmps18
  go_wp2_with fail
  go_loop [3, 7] (fun v3 v7 => ∃ k n : Nat, k ≤ s.size ∧ n ≤ 52 ∧ v3 = .int .i64 n ∧ v7 = .int .i64 k ∧ colF n (s.data.toList.drop k) = colN s.data.toList) (fun _ v7 => s.size - (intOf v7).toNat)
  case atStart => exact ⟨0, 0, Nat.zero_le _, Nat.zero_le _, rfl, rfl, rfl⟩
  case round =>
    obtain ⟨k, n, hk, hn, rfl, rfl, hc⟩ := hrel
    have HC : Hid (colF n (s.data.toList.drop k) = colN s.data.toList) := hc
    clear hc
    have hn2 : (n : Int) ≤ 52 := by omega
    clear hn
    by_cases hlt : k < s.size
    · have HT : Hid (colF n (s.data.toList.drop k) = if ltB s[k] && decide (26 * n + (s[k].toNat - 64) ≤ 52) then colF (26 * n + (s[k].toNat - 64)) (s.data.toList.drop (k + 1)) else 0) := colF_take s.data.toList k n (by omega)
      by_cases c1 : (s[k].toNat : Int) < 65
      · go_wp2_with fail
        go_ret
        exact ⟨ret_int (by rw [← HC.out, HT.out, lt_no (.inl c1)]; rfl), rfl⟩
      by_cases c2 : (90 : Int) < s[k].toNat
      · go_wp2_with fail
        go_ret
        exact ⟨ret_int (by rw [← HC.out, HT.out, lt_no (.inr c2)]; rfl), rfl⟩
      have HY : Hid (ltB s[k] = true) := lt_yes c1 c2
      obtain ⟨m, hm⟩ : ∃ m : Nat, m = 26 * n + (s[k].toNat - 64) := ⟨_, rfl⟩
      have hm2 : 26 * (n : Int) + ((s[k].toNat : Int) - 65) + 1 = (m : Int) := by omega
      have cI := fun W => iscol_any (m : Int) W
      have hb : colB (m : Int) = decide (m ≤ 52) := by
        unfold colB; rw [Bool.eq_iff_iff]; simp; omega
      rw [hb] at cI
      have HM : Hid (m = 26 * n + (s[k].toNat - 64)) := hm
      clear hm
      by_cases g : m ≤ 52
      · have g2 : (m : Int) ≤ 52 := by omega
        rw [show decide (m ≤ 52) = true from by simpa using g] at cI
        have HN : Hid (colF m (s.data.toList.drop (k + 1)) = colN s.data.toList) := by
          show _ = _
          rw [← HC.out, HT.out, HY.out, ← HM.out, show decide (m ≤ 52) = true from by simpa using g]; rfl
        clear g hb
        go_wp2_with fail
        refine (cI _).mono ?_
        rintro e w' ⟨rfl, rfl⟩
        go_wp2_with fail
        go_round
        case rel => exact ⟨k + 1, m, by omega, by omega, rfl, by go_num, HN.out⟩
        case measure => simp [intOf]; omega
      · rw [show decide (m ≤ 52) = false from by simpa using g] at cI
        have HN : Hid (colN s.data.toList = 0) := by
          show _ = _
          rw [← HC.out, HT.out, HY.out, ← HM.out, show decide (m ≤ 52) = false from by simpa using g]; rfl
        clear g hb
        go_wp2_with fail
        refine (cI _).mono ?_
        rintro e w' ⟨rfl, rfl⟩
        go_wp2_with fail
        go_ret
        exact ⟨ret_int (by rw [HN.out]; rfl), rfl⟩
    · have HN : Hid (colN s.data.toList = n) := by
        show _ = _
        rw [← HC.out, List.drop_of_length_le (by omega)]; rfl
      go_wp2_with fail
      go_ret
      exact ⟨ret_int (by rw [HN.out]), rfl⟩

theorem name_eq (k : Nat) (s : ByteArray) (h1 : 1 ≤ k) (h2 : k ≤ 52) : ((⟨(nameL k).toArray⟩ : ByteArray).toList == s.toList) = decide (colN s.data.toList = k) := by
  rw [ByteArray.toList_eq, ByteArray.toList_eq, Bool.eq_iff_iff, beq_iff_eq, decide_eq_true_eq]
  exact name_inj k s.data.toList h1 h2
theorem rcolnumber_any (s : ByteArray) (w : World) :
    Calls Tryd.prog 19 #[.string s] w fun e w' => e = .returned (.int .i64 (colN s.data.toList)) ∧ Ext w w' := by
  have HL : Hid (colN s.data.toList ≤ 52) := colN_le _
  go_enter Tryd.func19, Tryd.ntmps19
  go_wp2_with fail
  go_loopw [3] (fun v3 wx => ∃ g k : Nat, k + g = 53 ∧ 1 ≤ k ∧ v3 = .int .i64 k ∧ Ext w wx ∧ (colN s.data.toList = 0 ∨ k ≤ colN s.data.toList)) (fun v3 _ => 53 - (intOf v3).toNat)
  case atStart => exact ⟨52, 1, rfl, Nat.le_refl _, rfl, Ext.refl _, by omega⟩
  case round =>
    obtain ⟨g, k, hk, k1, rfl, E, hc⟩ := hrel
    have HC : Hid (colN s.data.toList = 0 ∨ k ≤ colN s.data.toList) := hc
    clear hc
    cases g with
    | zero =>
      obtain rfl : k = 53 := by omega
      have HZ : Hid (colN s.data.toList = 0) := by
        show _ = _
        have := HC.out; have := HL.out; omega
      clear hk k1
      go_wp2_with fail
      go_ret
      exact ⟨ret_int (by rw [HZ.out]; rfl), E⟩
    | succ g =>
      have kk : (k : Int) ≤ 52 := by omega
      have k2 : k ≤ 52 := by omega
      have c := fun W => rcolname_any (k : Int) ⟨by omega, by omega⟩ W
      have hq := name_eq k s k1 k2
      have HK : Hid (k + (g + 1) = 53) := hk
      have HK1 : Hid (1 ≤ k) := k1
      generalize (⟨(nameL k).toArray⟩ : ByteArray) = q at c hq
      clear hk k2 k1
      by_cases h : colN s.data.toList = k
      · rw [show decide (colN s.data.toList = k) = true from by simpa using h] at hq
        have H : Hid (colN s.data.toList = k) := h
        clear h
        go_wp2_with fail
        refine (c _).mono ?_
        rintro e w1 ⟨rfl, E1⟩
        go_wp2_with fail
        go_ret
        exact ⟨ret_int (by rw [H.out]), E.trans E1⟩
      · rw [show decide (colN s.data.toList = k) = false from by simpa using h] at hq
        have H : Hid (colN s.data.toList ≠ k) := h
        clear h
        go_wp2_with fail
        refine (c _).mono ?_
        rintro e w1 ⟨rfl, E1⟩
        go_wp2_with fail
        go_roundw
        case measure => have := HK.out; simp [intOf]; omega
        case rel =>
          exact ⟨g, k + 1, by have := HK.out; omega, by omega, by go_num, E.trans E1, by have := HC.out; have := H.out; omega⟩
end Go.Proofs.YtdklhgfkaablbaaDoor
