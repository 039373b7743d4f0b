/-
  The contract of package coord's Parse.
-/
import Derived.Test.YtdklhgfkaablbaaDoorCooE
namespace Go.Proofs.YtdklhgfkaablbaaDoor
open Go.RowKit
set_option maxHeartbeats 1000000

theorem ret_ref {x y : Value} {a b : Bool} (h : x = y) (g : a = b) : Ending.returned (.tuple #[x, .bool a]) = .returned (.tuple #[y, .bool b]) := by rw [h, g]
theorem ext_fst (q : ByteArray) (A B : List UInt8) (h : A ++ B = q.data.toList) : (q.extract 0 A.length).data.toList = A := by
  rw [Lib.extract_data, ← h]; simp
theorem ext_snd (q : ByteArray) (A B : List UInt8) (h : A ++ B = q.data.toList) : (q.extract A.length q.size).data.toList = B := by
  rw [Lib.extract_data, ← size_list, ← h]; simp
theorem tail_facts (l : List UInt8) (q1 q2 : ByteArray) (h1 : q1.data.toList = nmL l) (h2 : q2.data.toList = rsL l) (s1 : q1.size ≤ maxLen) (s2 : q2.size ≤ maxLen) :
    ∃ q3 : ByteArray, (∀ W, Calls Tryd.prog 28 #[.string q2, .string ⟨#[36]⟩] W fun e w' => e = .returned (.tuple #[.string q3, .bool (dlB (rsL l))]) ∧ w' = W) ∧
      (∀ W, Tab W → Calls Tryd.prog 30 #[.string q3] W fun e w' => e = .returned (.int .i64 (rowP l)) ∧ Ext W w') ∧
      (∀ W, Calls Tryd.prog 18 #[.string q1] W fun e w' => e = .returned (.int .i64 (colP l)) ∧ w' = W) ∧
      (∀ W, Calls Tryd.prog 15 #[.int .i64 (rowP l), .int .i64 (colP l)] W fun e w' => e = .returned (.bool (okP l)) ∧ w' = W) := by
  refine ⟨⟨(undl (rsL l)).toArray⟩, ?_, ?_, ?_, fun W => in_any _ _ W⟩
  · intro W
    have c := Tryd.strings_CutPrefix q2 ⟨#[36]⟩ W
    simp only [(pre_dollar q2.data.toList).1, (pre_dollar q2.data.toList).2] at c
    rw [h2] at c
    exact c
  · intro W hW
    refine rownumber_any ⟨(undl (rsL l)).toArray⟩ W ?_ hW
    rw [← size_list]
    refine Nat.le_trans ?_ s2
    rw [← size_list, h2]
    show (undl (rsL l)).length ≤ _
    unfold undl; split
    · simp
    · exact Nat.le_refl _
  · intro W
    have c := colnumber_any q1 W s1
    rw [h1] at c
    exact c
theorem cparse_any (s : ByteArray) (w : World) (hs : s.size ≤ maxLen) (hT : Tab w) :
    Calls Tryd.prog 9 #[.string s] w fun e w' => e = .returned (.tuple #[prV s.data.toList, .bool (okP s.data.toList)]) ∧ Ext w w' := by
  have hl := size_list s
  have c1 := fun W => Tryd.strings_CutPrefix s ⟨#[36]⟩ W
  simp only [(pre_dollar s.data.toList).1, (pre_dollar s.data.toList).2] at c1
  have hu : (undl s.data.toList).length ≤ s.size := by
    rw [← hl]; unfold undl; split
    · simp
    · exact Nat.le_refl _
  obtain ⟨q, hq⟩ : ∃ q : ByteArray, q = ⟨(undl s.data.toList).toArray⟩ := ⟨_, rfl⟩
  rw [← hq] at c1
  have hqd : q.data.toList = undl s.data.toList := by rw [hq]
  have hqs : q.size ≤ s.size := by rw [← size_list, hqd]; exact hu
  have c2 : ∀ W, Calls Tryd.prog 29 #[.string q, .string ⟨#[36, 48, 49, 50, 51, 52, 53, 54, 55, 56, 57]⟩] W fun e w' => e = .returned (.int .i64 (Lib.indexAny q.data.toList sgns)) ∧ Ext W w' := fun W => iany_any q W (by omega)
  clear hq hu
  by_cases hd : q.data.toList.dropWhile (fun c => !sgns.contains c) = []
  · obtain ⟨hi, ht⟩ := idx_none _ hd
    rw [hi] at c2
    have H1 : Hid (q.data.toList = nmL s.data.toList) := by show _ = _; unfold nmL; rw [← hqd, ht]
    have H2 : Hid ((⟨#[]⟩ : ByteArray).data.toList = rsL s.data.toList) := by show _ = _; unfold rsL; rw [← hqd, hd]
    have z2 : (⟨#[]⟩ : ByteArray).size = 0 := rfl
    have z1 : True := trivial
    unfold maxLen at hs
    clear hi hd ht hqd hl
    generalize s.data.toList = l at *
    obtain ⟨q3, c3, c4, c5, c6⟩ := tail_facts l q ⟨#[]⟩ H1.out H2.out (by unfold maxLen; omega) (by unfold maxLen; omega)
    have HV : Hid (prV l = if okP l then refD (rowP l) (colP l) (dlB (rsL l)) (dlB l) else refD 0 0 false false) := rfl
    clear H1 H2 z1 z2
    generalize rowP l = r at *
    generalize colP l = c at *
    generalize dlB (rsL l) = d2 at *
    generalize dlB l = d1 at *
    cases hok : okP l
    all_goals rw [hok] at HV c6
    · go_enter Tryd.func9, Tryd.ntmps9
      go_wp2_with fail
      refine (c1 _).mono ?_
      rintro e w1 ⟨rfl, rfl⟩
      go_wp2_with fail
      refine (c2 _).mono ?_
      rintro e w1 ⟨rfl, E1⟩
      have B1 := blk_top rfl E1
      have X1 := ((Ext.refl _).alloc _).trans E1
      clear E1
      go_wp2_with fail
      refine (c3 _).mono ?_
      rintro e w3 ⟨rfl, rfl⟩
      go_wp2_with fail
      refine (c4 _ (hT.ext X1)).mono ?_
      rintro e w4 ⟨rfl, E4⟩
      have B4 := B1.ext E4
      have X4 := X1.trans E4
      clear B1 E4 X1
      go_wp2_with fail
      refine (c5 _).mono ?_
      rintro e w5 ⟨rfl, rfl⟩
      go_wp2_with fail
      refine (c6 _).mono ?_
      rintro e w6 ⟨rfl, rfl⟩
      have B6 := B4.al (.cells #[.int .i64 r, .int .i64 c, .bool d2, .bool d1] 23)
      have X6 := X4.alloc (.cells #[.int .i64 r, .int .i64 c, .bool d2, .bool d1] 23)
      have C6 : Blk (w5.alloc (.cells #[.int .i64 r, .int .i64 c, .bool d2, .bool d1] 23)) w5.heap.size (.int .i64 r) (.int .i64 c) (.bool d2) (.bool d1) := blk_top rfl (Ext.refl _)
      clear B4 X4
      generalize w5.alloc (.cells #[.int .i64 r, .int .i64 c, .bool d2, .bool d1] 23) = w6 at *
      generalize w5.heap.size = nb at *
      obtain ⟨_, ⟨m0, m1, m2, m3⟩, _⟩ := C6
      obtain ⟨_, ⟨k0, k1, k2, k3⟩, f0, f1, f2, f3⟩ := B6
      go_wp2_with fail
      exact fin4b false k0 k1 k2 k3 rfl (Nat.le_refl _) X6 (fun W g0 g1 g2 g3 => by simp [results, Tryd.results9, go_sem, g0, g1, g2, g3]) (fun W h => ⟨ret_ref (by rw [HV.out]; rfl) rfl, h⟩)
    · go_enter Tryd.func9, Tryd.ntmps9
      go_wp2_with fail
      refine (c1 _).mono ?_
      rintro e w1 ⟨rfl, rfl⟩
      go_wp2_with fail
      refine (c2 _).mono ?_
      rintro e w1 ⟨rfl, E1⟩
      have B1 := blk_top rfl E1
      have X1 := ((Ext.refl _).alloc _).trans E1
      clear E1
      go_wp2_with fail
      refine (c3 _).mono ?_
      rintro e w3 ⟨rfl, rfl⟩
      go_wp2_with fail
      refine (c4 _ (hT.ext X1)).mono ?_
      rintro e w4 ⟨rfl, E4⟩
      have B4 := B1.ext E4
      have X4 := X1.trans E4
      clear B1 E4 X1
      go_wp2_with fail
      refine (c5 _).mono ?_
      rintro e w5 ⟨rfl, rfl⟩
      go_wp2_with fail
      refine (c6 _).mono ?_
      rintro e w6 ⟨rfl, rfl⟩
      have B6 := B4.al (.cells #[.int .i64 r, .int .i64 c, .bool d2, .bool d1] 23)
      have X6 := X4.alloc (.cells #[.int .i64 r, .int .i64 c, .bool d2, .bool d1] 23)
      have C6 : Blk (w5.alloc (.cells #[.int .i64 r, .int .i64 c, .bool d2, .bool d1] 23)) w5.heap.size (.int .i64 r) (.int .i64 c) (.bool d2) (.bool d1) := blk_top rfl (Ext.refl _)
      clear B4 X4
      generalize w5.alloc (.cells #[.int .i64 r, .int .i64 c, .bool d2, .bool d1] 23) = w6 at *
      generalize w5.heap.size = nb at *
      obtain ⟨_, ⟨m0, m1, m2, m3⟩, _⟩ := C6
      obtain ⟨_, ⟨k0, k1, k2, k3⟩, f0, f1, f2, f3⟩ := B6
      go_wp2_with fail
      exact fin4b true k0 k1 k2 k3 rfl (Nat.le_refl _) X6 (fun W g0 g1 g2 g3 => by simp [results, Tryd.results9, go_sem, g0, g1, g2, g3]) (fun W h => ⟨ret_ref (by rw [HV.out]; rfl) rfl, h⟩)
  · have hi := idx_some _ hd
    rw [hi] at c2
    have happ := List.takeWhile_append_dropWhile (p := fun c => !sgns.contains c) (l := q.data.toList)
    obtain ⟨k, hk⟩ : ∃ k : Nat, k = (q.data.toList.takeWhile (fun c => !sgns.contains c)).length := ⟨_, rfl⟩
    rw [← hk] at c2
    have hkq : k ≤ q.size := by
      have := congrArg List.length happ
      rw [List.length_append, size_list, ← hk] at this
      omega
    obtain ⟨q1, hq1⟩ : ∃ q1 : ByteArray, q.extract 0 k = q1 := ⟨_, rfl⟩
    obtain ⟨q2, hq2⟩ : ∃ q2 : ByteArray, q.extract k q.size = q2 := ⟨_, rfl⟩
    have h1d : q1.data.toList = nmL s.data.toList := by
      rw [← hq1, hk, ext_fst q _ _ happ, hqd]; rfl
    have h2d : q2.data.toList = rsL s.data.toList := by
      rw [← hq2, hk, ext_snd q _ _ happ, hqd]; rfl
    unfold maxLen at hs
    have H1 : Hid (q1.data.toList = nmL s.data.toList) := h1d
    have H2 : Hid (q2.data.toList = rsL s.data.toList) := h2d
    clear happ hi hd h1d h2d hk hqd hl
    generalize s.data.toList = l at *
    have z1 : q1.size ≤ q.size := by rw [← hq1, ByteArray.size_extract]; omega
    have z2 : q2.size ≤ q.size := by rw [← hq2, ByteArray.size_extract]; omega
    obtain ⟨q3, c3, c4, c5, c6⟩ := tail_facts l q1 q2 H1.out H2.out (by unfold maxLen; omega) (by unfold maxLen; omega)
    have HV : Hid (prV l = if okP l then refD (rowP l) (colP l) (dlB (rsL l)) (dlB l) else refD 0 0 false false) := rfl
    clear H1 H2 z1 z2
    generalize rowP l = r at *
    generalize colP l = c at *
    generalize dlB (rsL l) = d2 at *
    generalize dlB l = d1 at *
    cases hok : okP l
    all_goals rw [hok] at HV c6
    · go_enter Tryd.func9, Tryd.ntmps9
      go_wp2_with fail
      refine (c1 _).mono ?_
      rintro e w1 ⟨rfl, rfl⟩
      go_wp2_with fail
      refine (c2 _).mono ?_
      rintro e w1 ⟨rfl, E1⟩
      go_wp2_with fail
      go_region
      have B1 := (blk_top rfl E1).dr
      have X1 := (((Ext.refl _).alloc _).trans E1).drew
      clear E1
      generalize w1.drew = w2 at *
      go_wp2_with fail
      refine (c3 _).mono ?_
      rintro e w3 ⟨rfl, rfl⟩
      go_wp2_with fail
      refine (c4 _ (hT.ext X1)).mono ?_
      rintro e w4 ⟨rfl, E4⟩
      have B4 := B1.ext E4
      have X4 := X1.trans E4
      clear B1 E4 X1
      go_wp2_with fail
      refine (c5 _).mono ?_
      rintro e w5 ⟨rfl, rfl⟩
      go_wp2_with fail
      refine (c6 _).mono ?_
      rintro e w6 ⟨rfl, rfl⟩
      have B6 := B4.al (.cells #[.int .i64 r, .int .i64 c, .bool d2, .bool d1] 23)
      have X6 := X4.alloc (.cells #[.int .i64 r, .int .i64 c, .bool d2, .bool d1] 23)
      have C6 : Blk (w5.alloc (.cells #[.int .i64 r, .int .i64 c, .bool d2, .bool d1] 23)) w5.heap.size (.int .i64 r) (.int .i64 c) (.bool d2) (.bool d1) := blk_top rfl (Ext.refl _)
      clear B4 X4
      generalize w5.alloc (.cells #[.int .i64 r, .int .i64 c, .bool d2, .bool d1] 23) = w6 at *
      generalize w5.heap.size = nb at *
      obtain ⟨_, ⟨m0, m1, m2, m3⟩, _⟩ := C6
      obtain ⟨_, ⟨k0, k1, k2, k3⟩, f0, f1, f2, f3⟩ := B6
      go_wp2_with fail
      exact fin4b false k0 k1 k2 k3 rfl (Nat.le_refl _) X6 (fun W g0 g1 g2 g3 => by simp [results, Tryd.results9, go_sem, g0, g1, g2, g3]) (fun W h => ⟨ret_ref (by rw [HV.out]; rfl) rfl, h⟩)
    · go_enter Tryd.func9, Tryd.ntmps9
      go_wp2_with fail
      refine (c1 _).mono ?_
      rintro e w1 ⟨rfl, rfl⟩
      go_wp2_with fail
      refine (c2 _).mono ?_
      rintro e w1 ⟨rfl, E1⟩
      go_wp2_with fail
      go_region
      have B1 := (blk_top rfl E1).dr
      have X1 := (((Ext.refl _).alloc _).trans E1).drew
      clear E1
      generalize w1.drew = w2 at *
      go_wp2_with fail
      refine (c3 _).mono ?_
      rintro e w3 ⟨rfl, rfl⟩
      go_wp2_with fail
      refine (c4 _ (hT.ext X1)).mono ?_
      rintro e w4 ⟨rfl, E4⟩
      have B4 := B1.ext E4
      have X4 := X1.trans E4
      clear B1 E4 X1
      go_wp2_with fail
      refine (c5 _).mono ?_
      rintro e w5 ⟨rfl, rfl⟩
      go_wp2_with fail
      refine (c6 _).mono ?_
      rintro e w6 ⟨rfl, rfl⟩
      have B6 := B4.al (.cells #[.int .i64 r, .int .i64 c, .bool d2, .bool d1] 23)
      have X6 := X4.alloc (.cells #[.int .i64 r, .int .i64 c, .bool d2, .bool d1] 23)
      have C6 : Blk (w5.alloc (.cells #[.int .i64 r, .int .i64 c, .bool d2, .bool d1] 23)) w5.heap.size (.int .i64 r) (.int .i64 c) (.bool d2) (.bool d1) := blk_top rfl (Ext.refl _)
      clear B4 X4
      generalize w5.alloc (.cells #[.int .i64 r, .int .i64 c, .bool d2, .bool d1] 23) = w6 at *
      generalize w5.heap.size = nb at *
      obtain ⟨_, ⟨m0, m1, m2, m3⟩, _⟩ := C6
      obtain ⟨_, ⟨k0, k1, k2, k3⟩, f0, f1, f2, f3⟩ := B6
      go_wp2_with fail
      exact fin4b true k0 k1 k2 k3 rfl (Nat.le_refl _) X6 (fun W g0 g1 g2 g3 => by simp [results, Tryd.results9, go_sem, g0, g1, g2, g3]) (fun W h => ⟨ret_ref (by rw [HV.out]; rfl) rfl, h⟩)
end Go.Proofs.YtdklhgfkaablbaaDoor
