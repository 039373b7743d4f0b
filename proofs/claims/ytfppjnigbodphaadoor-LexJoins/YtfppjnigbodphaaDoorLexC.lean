/-
  The contract of package lex's number.
-/
import Derived.Test.YtfppjnigbodphaaDoorLexB
import Derived.Test.YtfppjnigbodphaaDoorDecC
namespace Go.Proofs.YtfppjnigbodphaaDoor
open Go.RowKit
set_option maxHeartbeats 1000000

theorem rdK_three (l : List UInt8) : rdK l = 0 ∨ rdK l = 1 ∨ rdK l = 2 := by
  unfold rdK; split
  · split <;> simp
  · simp
/-- Where a number ends, as the program asks it. -/
theorem numE_end (l : List UInt8) (h : ¬ run dgB l + 1 < l.length) : numE l = run dgB l := by
  unfold numE; rw [if_neg]; rintro ⟨_, h2⟩
  rw [List.drop_eq_nil_of_le (by omega)] at h2; simp [run] at h2
theorem numE_no (l : List UInt8) (c : UInt8) (h : l[run dgB l]? = some c) (hc : c ≠ 46) : numE l = run dgB l := by
  unfold numE; rw [if_neg]; rintro ⟨h1, _⟩; rw [h] at h1; exact hc (Option.some.inj h1)
theorem numE_nod (l : List UInt8) (c : UInt8) (h : l[run dgB l + 1]? = some c) (hc : dgB c = false) : numE l = run dgB l := by
  unfold numE; rw [if_neg]; rintro ⟨_, h2⟩
  have hj : run dgB l + 1 < l.length := (List.getElem?_eq_some_iff.mp h).1
  rw [List.drop_eq_getElem_cons hj, run_cons] at h2
  rw [List.getElem?_eq_getElem hj] at h; cases h
  rw [hc] at h2; simp at h2
theorem numE_dot (l : List UInt8) (c : UInt8) (h0 : l[run dgB l]? = some 46) (h : l[run dgB l + 1]? = some c) (hc : dgB c = true) : numE l = run dgB l + 1 + run dgB (l.drop (run dgB l + 1)) := by
  unfold numE; rw [if_pos]; refine ⟨h0, ?_⟩
  have hj : run dgB l + 1 < l.length := (List.getElem?_eq_some_iff.mp h).1
  rw [List.drop_eq_getElem_cons hj, run_cons]
  rw [List.getElem?_eq_getElem hj] at h; cases h
  rw [hc]; simp
theorem numR_0 {l : List UInt8} (h : rdK (l.take (numE l)) = 0) : numR l = .error 4 := by unfold numR; rw [if_pos h]
theorem numR_2 {l : List UInt8} (h : rdK (l.take (numE l)) = 2) : numR l = .error 2 := by unfold numR; rw [if_neg (by omega), if_pos h]
theorem numR_1 {l : List UInt8} (h : rdK (l.take (numE l)) = 1) : numR l = .ok (0, [], rdV (l.take (numE l)), 0, numE l) := by unfold numR; rw [if_neg (by omega), if_neg (by omega)]

theorem number_any (s : ByteArray) (k : Nat) (w : World) (hk : k ≤ s.size) (hs : s.size ≤ 300) :
    Calls Tryd.prog 23 #[.string s, .int .i64 (k : Int)] w fun e w' => NxR (numR (s.data.toList.drop k)) k e ∧ Ext w w' := by
  have hl := size_list s
  obtain ⟨l, hll⟩ : ∃ l, s.data.toList.drop k = l := ⟨_, rfl⟩
  have hlen : l.length = s.size - k := by rw [← hll]; simp [hl]
  have c1 := fun W => past_digit s k W hk hs
  have hr := runL_le dgB l
  have hat : ∀ i (h : k + i < s.size), l[i]? = some s[k + i] := by
    intro i h; rw [← hll, List.getElem?_drop, List.getElem?_eq_getElem (by rw [hl]; exact h)]; rfl
  rw [hll] at c1 ⊢
  have hn := numE_le l
  have hng := numE_ge l
  -- what is read, wherever it ends
  obtain ⟨m, hm⟩ : ∃ m, k + numE l = m := ⟨_, rfl⟩
  have m1 : k ≤ m := by omega
  have m2 : m ≤ s.size := by omega
  obtain ⟨q, hq⟩ : ∃ q, s.extract k m = q := ⟨_, rfl⟩
  have hqs : q.size ≤ 300 := by rw [← hq, ByteArray.size_extract]; omega
  have hqq : q.data.toList = l.take (numE l) := by rw [← hq, ← hm, sub_bs, hll]; rfl
  have c3 := fun W => parse_any q W (by unfold maxLen; omega)
  rw [hqq] at c3
  have H0 : Hid (rdK (l.take (numE l)) = 0 → numR l = .error 4) := numR_0
  have H2 : Hid (rdK (l.take (numE l)) = 2 → numR l = .error 2) := numR_2
  have H1 : Hid (rdK (l.take (numE l)) = 1 → numR l = .ok (0, [], rdV (l.take (numE l)), 0, numE l)) := numR_1
  have HM : Hid (k + numE l = m) := hm
  have HD : Hid (s.data.toList.drop k = l) := hll
  have HK : Hid (rdK (l.take (numE l)) = 0 ∨ rdK (l.take (numE l)) = 1 ∨ rdK (l.take (numE l)) = 2) := rdK_three _
  obtain ⟨K, hK⟩ : ∃ K, rdK (l.take (numE l)) = K := ⟨_, rfl⟩
  obtain ⟨V, hV⟩ : ∃ V, rdV (l.take (numE l)) = V := ⟨_, rfl⟩
  rw [hK] at c3 H0 H1 H2 HK
  rw [hV] at c3 H1
  obtain ⟨n1, hn1⟩ : ∃ n1, run dgB l = n1 := ⟨_, rfl⟩
  obtain ⟨e1, he1⟩ : ∃ e1, k + n1 = e1 := ⟨_, rfl⟩
  have n2 := numE_end l
  have n3 := numE_no l
  have n4 := numE_nod l
  have n5 := numE_dot l
  rw [hn1] at c1 n2 n3 n4 n5 hr hng
  rw [he1] at c1
  have e1a : k ≤ e1 := by omega
  have e1b : e1 ≤ s.size := by omega
  by_cases h1 : e1 + 1 < s.size
  · have hl1 : (e1 : Int) + 1 < (s.size : Int) := by omega
    have hx0 := hat n1 (by omega)
    have hx1 := hat (n1 + 1) (by omega)
    have g1 : e1 < s.size := by omega
    have ea : s[k + n1] = s[e1] := by congr 1
    have eb : s[k + (n1 + 1)] = s[e1 + 1] := by congr 1; omega
    rw [ea] at hx0
    rw [eb] at hx1
    have hb := byte_ne (c := s[e1]) 46 (by omega)
    by_cases h2 : s[e1] = 46
    · have tb : (((s[e1]).toNat : Int) == 46) = true := by rw [show (46 : Int) = ((46 : Nat) : Int) from rfl, hb, h2]; rfl
      have c2 := fun W => isDigit_any s[e1 + 1] W
      cases h3 : dgB s[e1 + 1]
      · rw [h3] at c2
        have hme : m = e1 := by have := n4 _ hx1 h3; omega
        subst hme
        clear ea eb hx0 hx1 hb h2 h3
        clear hr hat hn hng hm hqq hK hV hn1 he1 n2 n3 n4 n5 hlen hl hll hk
        go_enter Tryd.func23, Tryd.ntmps23
        rcases HK.out with k0 | k0 | k0
        · subst k0
          have R0 : Hid (numR l = .error 4) := H0.out rfl
          clear H0 H1 H2 HK
          go_wp2_with fail
          refine (c1 _).mono ?_
          rintro e w1 ⟨rfl, rfl⟩
          go_wp2_with fail
          refine (c2 _).mono ?_
          rintro e w2 ⟨rfl, rfl⟩
          go_wp2_with fail
          refine (c3 _).mono ?_
          rintro e w3 ⟨rfl, E3⟩
          have X3 := ((Ext.refl w).alloc _).trans E3
          go_wp2_with fail
          exact ⟨rfl, by rw [R0.out]; rfl, X3⟩
        · subst k0
          have R0 : Hid (numR l = .ok (0, [], V, 0, numE l)) := H1.out rfl
          clear H0 H1 H2 HK
          go_wp2_with fail
          refine (c1 _).mono ?_
          rintro e w1 ⟨rfl, rfl⟩
          go_wp2_with fail
          refine (c2 _).mono ?_
          rintro e w2 ⟨rfl, rfl⟩
          go_wp2_with fail
          refine (c3 _).mono ?_
          rintro e w3 ⟨rfl, E3⟩
          have B3 := blk5_top rfl E3
          have X3 := ((Ext.refl w).alloc _).trans E3
          have D3 := B3
          obtain ⟨_, ⟨b0, b1, b2, b3, b4⟩, f0, f1, f2, f3, f4⟩ := D3
          clear E3
          go_wp2_with fail
          refine fin5 _ (B3.set _ _ _ _ _) rfl (by with_reducible repeat (first | assumption | exact Ext.refl _ | apply Ext.alloc | apply Ext.drewN | (refine Ext.setCell ?_ (by simp) _))) (fun g0 g1 g2 g3 g4 => by simp [results, Tryd.results23, go_sem, g0, g1, g2, g3, g4]; rfl) (fun h => ⟨?_, h⟩)
          rw [R0.out]
          exact nx_fin (0, [], V, 0, numE l) k _ (by rw [HM.out])
        · subst k0
          have R0 : Hid (numR l = .error 2) := H2.out rfl
          clear H0 H1 H2 HK
          go_wp2_with fail
          refine (c1 _).mono ?_
          rintro e w1 ⟨rfl, rfl⟩
          go_wp2_with fail
          refine (c2 _).mono ?_
          rintro e w2 ⟨rfl, rfl⟩
          go_wp2_with fail
          refine (c3 _).mono ?_
          rintro e w3 ⟨rfl, E3⟩
          have X3 := ((Ext.refl w).alloc _).trans E3
          go_wp2_with fail
          exact ⟨rfl, by rw [R0.out]; rfl, X3⟩
      · rw [h3] at c2
        have c4 := fun W => past_digit s (e1 + 1) W (by omega) hs
        have hdd : s.data.toList.drop (e1 + 1) = l.drop (n1 + 1) := by rw [← hll, List.drop_drop]; congr 1; omega
        have hme : e1 + 1 + run dgB (s.data.toList.drop (e1 + 1)) = m := by rw [hdd]; have := n5 _ (by rw [hx0, h2]) hx1 h3; omega
        rw [hme] at c4
        clear ea eb hx0 hx1 hb h2 h3 hdd hme
        clear hr hat hn hng hm hqq hK hV hn1 he1 n2 n3 n4 n5 hlen hl hll hk
        go_enter Tryd.func23, Tryd.ntmps23
        rcases HK.out with k0 | k0 | k0
        · subst k0
          have R0 : Hid (numR l = .error 4) := H0.out rfl
          clear H0 H1 H2 HK
          go_wp2_with fail
          refine (c1 _).mono ?_
          rintro e w1 ⟨rfl, rfl⟩
          go_wp2_with fail
          refine (c2 _).mono ?_
          rintro e w2 ⟨rfl, rfl⟩
          go_wp2_with fail
          refine (c4 _).mono ?_
          rintro e w4 ⟨rfl, rfl⟩
          go_wp2_with fail
          refine (c3 _).mono ?_
          rintro e w3 ⟨rfl, E3⟩
          have X3 := ((Ext.refl w).alloc _).trans E3
          go_wp2_with fail
          exact ⟨rfl, by rw [R0.out]; rfl, X3⟩
        · subst k0
          have R0 : Hid (numR l = .ok (0, [], V, 0, numE l)) := H1.out rfl
          clear H0 H1 H2 HK
          go_wp2_with fail
          refine (c1 _).mono ?_
          rintro e w1 ⟨rfl, rfl⟩
          go_wp2_with fail
          refine (c2 _).mono ?_
          rintro e w2 ⟨rfl, rfl⟩
          go_wp2_with fail
          refine (c4 _).mono ?_
          rintro e w4 ⟨rfl, rfl⟩
          go_wp2_with fail
          refine (c3 _).mono ?_
          rintro e w3 ⟨rfl, E3⟩
          have B3 := blk5_top rfl E3
          have X3 := ((Ext.refl w).alloc _).trans E3
          have D3 := B3
          obtain ⟨_, ⟨b0, b1, b2, b3, b4⟩, f0, f1, f2, f3, f4⟩ := D3
          clear E3
          go_wp2_with fail
          refine fin5 _ (B3.set _ _ _ _ _) rfl (by with_reducible repeat (first | assumption | exact Ext.refl _ | apply Ext.alloc | apply Ext.drewN | (refine Ext.setCell ?_ (by simp) _))) (fun g0 g1 g2 g3 g4 => by simp [results, Tryd.results23, go_sem, g0, g1, g2, g3, g4]; rfl) (fun h => ⟨?_, h⟩)
          rw [R0.out]
          exact nx_fin (0, [], V, 0, numE l) k _ (by rw [HM.out])
        · subst k0
          have R0 : Hid (numR l = .error 2) := H2.out rfl
          clear H0 H1 H2 HK
          go_wp2_with fail
          refine (c1 _).mono ?_
          rintro e w1 ⟨rfl, rfl⟩
          go_wp2_with fail
          refine (c2 _).mono ?_
          rintro e w2 ⟨rfl, rfl⟩
          go_wp2_with fail
          refine (c4 _).mono ?_
          rintro e w4 ⟨rfl, rfl⟩
          go_wp2_with fail
          refine (c3 _).mono ?_
          rintro e w3 ⟨rfl, E3⟩
          have X3 := ((Ext.refl w).alloc _).trans E3
          go_wp2_with fail
          exact ⟨rfl, by rw [R0.out]; rfl, X3⟩
    · have tb : (((s[e1]).toNat : Int) == 46) = false := by rw [show (46 : Int) = ((46 : Nat) : Int) from rfl, hb]; simpa using h2
      have hme : m = e1 := by have := n3 _ hx0 h2; omega
      subst hme
      clear ea eb hx0 hx1 hb h2
      clear hr hat hn hng hm hqq hK hV hn1 he1 n2 n3 n4 n5 hlen hl hll hk
      go_enter Tryd.func23, Tryd.ntmps23
      rcases HK.out with k0 | k0 | k0
      · subst k0
        have R0 : Hid (numR l = .error 4) := H0.out rfl
        clear H0 H1 H2 HK
        go_wp2_with fail
        refine (c1 _).mono ?_
        rintro e w1 ⟨rfl, rfl⟩
        go_wp2_with fail
        refine (c3 _).mono ?_
        rintro e w3 ⟨rfl, E3⟩
        have X3 := ((Ext.refl w).alloc _).trans E3
        go_wp2_with fail
        exact ⟨rfl, by rw [R0.out]; rfl, X3⟩
      · subst k0
        have R0 : Hid (numR l = .ok (0, [], V, 0, numE l)) := H1.out rfl
        clear H0 H1 H2 HK
        go_wp2_with fail
        refine (c1 _).mono ?_
        rintro e w1 ⟨rfl, rfl⟩
        go_wp2_with fail
        refine (c3 _).mono ?_
        rintro e w3 ⟨rfl, E3⟩
        have B3 := blk5_top rfl E3
        have X3 := ((Ext.refl w).alloc _).trans E3
        have D3 := B3
        obtain ⟨_, ⟨b0, b1, b2, b3, b4⟩, f0, f1, f2, f3, f4⟩ := D3
        clear E3
        go_wp2_with fail
        refine fin5 _ (B3.set _ _ _ _ _) rfl (by with_reducible repeat (first | assumption | exact Ext.refl _ | apply Ext.alloc | apply Ext.drewN | (refine Ext.setCell ?_ (by simp) _))) (fun g0 g1 g2 g3 g4 => by simp [results, Tryd.results23, go_sem, g0, g1, g2, g3, g4]; rfl) (fun h => ⟨?_, h⟩)
        rw [R0.out]
        exact nx_fin (0, [], V, 0, numE l) k _ (by rw [HM.out])
      · subst k0
        have R0 : Hid (numR l = .error 2) := H2.out rfl
        clear H0 H1 H2 HK
        go_wp2_with fail
        refine (c1 _).mono ?_
        rintro e w1 ⟨rfl, rfl⟩
        go_wp2_with fail
        refine (c3 _).mono ?_
        rintro e w3 ⟨rfl, E3⟩
        have X3 := ((Ext.refl w).alloc _).trans E3
        go_wp2_with fail
        exact ⟨rfl, by rw [R0.out]; rfl, X3⟩
  · have hl1 : ¬ (e1 : Int) + 1 < (s.size : Int) := by omega
    have hme : m = e1 := by have := n2 (by omega); omega
    subst hme
    clear hr hat hn hng hm hqq hK hV hn1 he1 n2 n3 n4 n5 hlen hl hll hk
    go_enter Tryd.func23, Tryd.ntmps23
    rcases HK.out with k0 | k0 | k0
    · subst k0
      have R0 : Hid (numR l = .error 4) := H0.out rfl
      clear H0 H1 H2 HK
      go_wp2_with fail
      refine (c1 _).mono ?_
      rintro e w1 ⟨rfl, rfl⟩
      go_wp2_with fail
      refine (c3 _).mono ?_
      rintro e w3 ⟨rfl, E3⟩
      have X3 := ((Ext.refl w).alloc _).trans E3
      go_wp2_with fail
      exact ⟨rfl, by rw [R0.out]; rfl, X3⟩
    · subst k0
      have R0 : Hid (numR l = .ok (0, [], V, 0, numE l)) := H1.out rfl
      clear H0 H1 H2 HK
      go_wp2_with fail
      refine (c1 _).mono ?_
      rintro e w1 ⟨rfl, rfl⟩
      go_wp2_with fail
      refine (c3 _).mono ?_
      rintro e w3 ⟨rfl, E3⟩
      have B3 := blk5_top rfl E3
      have X3 := ((Ext.refl w).alloc _).trans E3
      have D3 := B3
      obtain ⟨_, ⟨b0, b1, b2, b3, b4⟩, f0, f1, f2, f3, f4⟩ := D3
      clear E3
      go_wp2_with fail
      refine fin5 _ (B3.set _ _ _ _ _) rfl (by with_reducible repeat (first | assumption | exact Ext.refl _ | apply Ext.alloc | apply Ext.drewN | (refine Ext.setCell ?_ (by simp) _))) (fun g0 g1 g2 g3 g4 => by simp [results, Tryd.results23, go_sem, g0, g1, g2, g3, g4]; rfl) (fun h => ⟨?_, h⟩)
      rw [R0.out]
      exact nx_fin (0, [], V, 0, numE l) k _ (by rw [HM.out])
    · subst k0
      have R0 : Hid (numR l = .error 2) := H2.out rfl
      clear H0 H1 H2 HK
      go_wp2_with fail
      refine (c1 _).mono ?_
      rintro e w1 ⟨rfl, rfl⟩
      go_wp2_with fail
      refine (c3 _).mono ?_
      rintro e w3 ⟨rfl, E3⟩
      have X3 := ((Ext.refl w).alloc _).trans E3
      go_wp2_with fail
      exact ⟨rfl, by rw [R0.out]; rfl, X3⟩
end Go.Proofs.YtfppjnigbodphaaDoor
