/-
  What TRUE and FALSE, and errors, are written as: package value's Show and ErrName, and the document's.
  The contract of package lex's number.
  The document's kinds of bytes, what stands at a place, digits and numbers.
  strings.Builder: copyCheck and WriteByte, at a builder of the call's own. (The shelf's contracts do not lie at this dump: here a builder's text that was written in another place is refused.)
-/
import Derived.Test.YtdjniiginnlmhaaGreatDoorQ12
import Derived.Test.YtdjniiginnlmhaaGreatDoorQ10
import Derived.Test.YtdjniiginnlmhaaGreatDoorQ9
import Derived.Test.YtdjniiginnlmhaaGreatDoorQ4
import Derived.Test.YtdjniiginnlmhaaGreatDoorQ7
import Derived.Shelf.Strings.BuilderX
import Derived.Lib.Builder
import Derived.Laws.Externs
import Derived.Laws.AppendOwn
namespace Go.Proofs.YtdjniiginnlmhaaGreatDoor
open Go.RowKit
set_option maxHeartbeats 1000000

def nB (b : Bool) : Int := if b then 1 else 0
def tfL (b : Bool) : List UInt8 := if b then wTrue else wFalse
theorem vb9_any (b : Bool) (w : World) : Calls Tryz.prog 61 #[.bool b] w fun r w' => r = .returned (.agg #[.int .i64 1, .int .i64 (nB b), .string ⟨#[]⟩, .int .i64 0]) ∧ Ext w w' := by
  cases b
  all_goals
    go_enter Tryz.func61, Tryz.ntmps61
    go_wp2_with fail
    simp [bodyPost, results, Tryz.results61, go_sem, nB]
    exact (Ext.refl _).alloc _
theorem rb9_any (b : Bool) (w : World) : Calls Tryz.prog 34 #[.bool b] w fun r w' => r = .returned (.agg #[.int .i64 1, .int .i64 (nB b), .string ⟨#[]⟩, .int .i64 0]) ∧ Ext w w' := by
  cases b
  all_goals
    go_enter Tryz.func34, Tryz.ntmps34
    go_wp2_with fail
    simp [bodyPost, results, Tryz.results34, go_sem, nB]
    exact (Ext.refl _).alloc _
theorem vn9_any (b : Bool) (w : World) : Calls Tryz.prog 95 #[.agg #[.int .i64 1, .int .i64 (nB b), .string ⟨#[]⟩, .int .i64 0]] w fun r w' => r = .returned (.agg #[.int .i64 1, .int .i64 (nB b), .string ⟨#[]⟩, .int .i64 0]) ∧ Ext w w' := by
  have c1 := fun W => vb9_any b W
  have hb : (nB b != 0) = b := by cases b <;> rfl
  generalize nB b = q1 at *
  go_enter Tryz.func95, Tryz.ntmps95
  go_wp2_with fail
  refine (c1 _).mono ?_
  rintro r w1 ⟨rfl, E1⟩
  obtain ⟨z, ⟨k0, k1, k2, k3⟩, f0, f1, f2, f3⟩ := blk_top (b := w.heap.size + 1) (by simp) E1
  have HE : Hid (Ext w w1) := (((Ext.refl _).alloc _).alloc _).trans E1
  clear E1
  go_wp2_with fail
  exact fin4 k0 k1 k2 k3 rfl (by simp) HE.out (fun W g0 g1 g2 g3 => by simp [results, Tryz.results95, go_sem, g0, g1, g2, g3]) (fun W h => ⟨rfl, h⟩)
theorem rn9_any (b : Bool) (w : World) : Calls Tryz.prog 70 #[.agg #[.int .i64 1, .int .i64 (nB b), .string ⟨#[]⟩, .int .i64 0]] w fun r w' => r = .returned (.agg #[.int .i64 1, .int .i64 (nB b), .string ⟨#[]⟩, .int .i64 0]) ∧ Ext w w' := by
  have c1 := fun W => rb9_any b W
  have hb : (nB b != 0) = b := by cases b <;> rfl
  generalize nB b = q1 at *
  go_enter Tryz.func70, Tryz.ntmps70
  go_wp2_with fail
  refine (c1 _).mono ?_
  rintro r w1 ⟨rfl, E1⟩
  obtain ⟨z, ⟨k0, k1, k2, k3⟩, f0, f1, f2, f3⟩ := blk_top (b := w.heap.size + 1) (by simp) E1
  have HE : Hid (Ext w w1) := (((Ext.refl _).alloc _).alloc _).trans E1
  clear E1
  go_wp2_with fail
  exact fin4 k0 k1 k2 k3 rfl (by simp) HE.out (fun W g0 g1 g2 g3 => by simp [results, Tryz.results70, go_sem, g0, g1, g2, g3]) (fun W h => ⟨rfl, h⟩)
theorem tn9_any (b : Bool) (w : World) : Calls Tryz.prog 96 #[.agg #[.int .i64 1, .int .i64 (nB b), .string ⟨#[]⟩, .int .i64 0]] w fun r w' => r = .returned (.string (bs (tfL b))) ∧ Ext w w' := by
  cases b
  all_goals
    simp only [nB, Bool.false_eq_true, if_false, if_true]
    go_enter Tryz.func96, Tryz.ntmps96
    go_wp2_with fail
    go_ret
    exact ⟨rfl, (Ext.refl _).alloc _⟩
theorem vs9_any (b : Bool) (w : World) : Calls Tryz.prog 60 #[.agg #[.int .i64 1, .int .i64 (nB b), .string ⟨#[]⟩, .int .i64 0]] w fun r w' => r = .returned (.string (bs (tfL b))) ∧ Ext w w' := by
  have c0 := fun W => vn9_any b W
  have c1 := fun W => tn9_any b W
  generalize nB b = q1 at *
  go_enter Tryz.func60, Tryz.ntmps60
  go_wp2_with fail
  refine (c0 _).mono ?_
  rintro r w1 ⟨rfl, E1⟩
  have X1 : Hid (Ext w w1) := ((Ext.refl _).alloc _).trans E1
  obtain ⟨z, ⟨k0, k1, k2, k3⟩, f0, f1, f2, f3⟩ := blk_top (b := w.heap.size) (by simp) E1
  clear E1
  go_wp2_with fail
  refine (c1 _).mono ?_
  rintro r w2 ⟨rfl, E2⟩
  have X2 : Hid (Ext w w2) := ((((X1.out.setCell (by simp) _).setCell (by simp) _).setCell (by simp) _).setCell (by simp) _).trans E2
  clear E2
  go_wp2_with fail
  go_ret
  exact ⟨rfl, X2.out⟩
theorem rs9_any (b : Bool) (w : World) : Calls Tryz.prog 33 #[.agg #[.int .i64 1, .int .i64 (nB b), .string ⟨#[]⟩, .int .i64 0]] w fun r w' => r = .returned (.string (bs (tfL b))) ∧ Ext w w' := by
  have c0 := fun W => rn9_any b W
  cases b
  all_goals
    simp only [nB, Bool.false_eq_true, if_false, if_true] at c0 ⊢
    go_enter Tryz.func33, Tryz.ntmps33
    go_wp2_with fail
    refine (c0 _).mono ?_
    rintro r w1 ⟨rfl, E1⟩
    have X1 : Hid (Ext w w1) := ((Ext.refl _).alloc _).trans E1
    obtain ⟨z, ⟨k0, k1, k2, k3⟩, f0, f1, f2, f3⟩ := blk_top (b := w.heap.size) (by simp) E1
    clear E1
    go_wp2_with fail
    go_ret
    exact ⟨rfl, (((X1.out.setCell (by simp) _).setCell (by simp) _).setCell (by simp) _).setCell (by simp) _⟩
theorem verr9_any (e : Int) (h : 1 ≤ e ∧ e ≤ 5) (w : World) (hN : Nm w) : Calls Tryz.prog 62 #[.int .i64 e] w fun r w' => r = .returned (.string (bs (errL e))) ∧ w' = w := by
  have hh : e = 1 ∨ e = 2 ∨ e = 3 ∨ e = 4 ∨ e = 5 := by omega
  rcases hh with rfl | rfl | rfl | rfl | rfl
  · exact (errname_at 0 _ rfl w hN).2
  · exact (errname_at 1 _ rfl w hN).2
  · exact (errname_at 2 _ rfl w hN).2
  · exact (errname_at 3 _ rfl w hN).2
  · exact (errname_at 4 _ rfl w hN).2
theorem rerr9_any (e : Int) (h : 1 ≤ e ∧ e ≤ 5) (w : World) : Calls Tryz.prog 35 #[.int .i64 e] w fun r w' => r = .returned (.string (bs (errL e))) ∧ w' = w := by
  have hh : e = 1 ∨ e = 2 ∨ e = 3 ∨ e = 4 ∨ e = 5 := by omega
  rcases hh with rfl | rfl | rfl | rfl | rfl
  all_goals
    clear h
    go_enter Tryz.func35, Tryz.ntmps35
    go_wp2_with fail
    go_ret
    exact ⟨rfl, rfl⟩
end Go.Proofs.YtdjniiginnlmhaaGreatDoor

namespace Go.Proofs.YtdjniiginnlmhaaGreatDoor
open Go.RowKit
set_option maxHeartbeats 1000000

theorem rdK_three (l : List UInt8) : rdK l = 0 ∨ rdK l = 1 ∨ rdK l = 2 := by
  unfold rdK; split
  · split <;> simp
  · simp
/-- Where a number ends, as the program asks it. -/
theorem numE_end (l : List UInt8) (h : ¬ run dgB l + 1 < l.length) : numE l = run dgB l := by
  unfold numE; rw [if_neg]; rintro ⟨_, h2⟩
  rw [List.drop_eq_nil_of_le (by omega)] at h2; simp [run] at h2
theorem numE_no (l : List UInt8) (c : UInt8) (h : l[run dgB l]? = some c) (hc : c ≠ 46) : numE l = run dgB l := by
  unfold numE; rw [if_neg]; rintro ⟨h1, _⟩; rw [h] at h1; exact hc (Option.some.inj h1)
theorem numE_nod (l : List UInt8) (c : UInt8) (h : l[run dgB l + 1]? = some c) (hc : dgB c = false) : numE l = run dgB l := by
  unfold numE; rw [if_neg]; rintro ⟨_, h2⟩
  have hj : run dgB l + 1 < l.length := (List.getElem?_eq_some_iff.mp h).1
  rw [List.drop_eq_getElem_cons hj, run_cons] at h2
  rw [List.getElem?_eq_getElem hj] at h; cases h
  rw [hc] at h2; simp at h2
theorem numE_dot (l : List UInt8) (c : UInt8) (h0 : l[run dgB l]? = some 46) (h : l[run dgB l + 1]? = some c) (hc : dgB c = true) : numE l = run dgB l + 1 + run dgB (l.drop (run dgB l + 1)) := by
  unfold numE; rw [if_pos]; refine ⟨h0, ?_⟩
  have hj : run dgB l + 1 < l.length := (List.getElem?_eq_some_iff.mp h).1
  rw [List.drop_eq_getElem_cons hj, run_cons]
  rw [List.getElem?_eq_getElem hj] at h; cases h
  rw [hc]; simp
theorem numR_0 {l : List UInt8} (h : rdK (l.take (numE l)) = 0) : numR l = .error 4 := by unfold numR; rw [if_pos h]
theorem numR_2 {l : List UInt8} (h : rdK (l.take (numE l)) = 2) : numR l = .error 2 := by unfold numR; rw [if_neg (by omega), if_pos h]
theorem numR_1 {l : List UInt8} (h : rdK (l.take (numE l)) = 1) : numR l = .ok (0, [], rdV (l.take (numE l)), 0, numE l) := by unfold numR; rw [if_neg (by omega), if_neg (by omega)]

theorem number_any (s : ByteArray) (k : Nat) (w : World) (hk : k ≤ s.size) (hs : s.size ≤ 300) :
    Calls Tryz.prog 171 #[.string s, .int .i64 (k : Int)] w fun e w' => NxR (numR (s.data.toList.drop k)) k e ∧ Ext w w' := by
  have hl := size_list s
  obtain ⟨l, hll⟩ : ∃ l, s.data.toList.drop k = l := ⟨_, rfl⟩
  have hlen : l.length = s.size - k := by rw [← hll]; simp [hl]
  have c1 := fun W => past_digit s k W hk hs
  have hr := runL_le dgB l
  have hat : ∀ i (h : k + i < s.size), l[i]? = some s[k + i] := by
    intro i h; rw [← hll, List.getElem?_drop, List.getElem?_eq_getElem (by rw [hl]; exact h)]; rfl
  rw [hll] at c1 ⊢
  have hn := numE_le l
  have hng := numE_ge l
  -- what is read, wherever it ends
  obtain ⟨m, hm⟩ : ∃ m, k + numE l = m := ⟨_, rfl⟩
  have m1 : k ≤ m := by omega
  have m2 : m ≤ s.size := by omega
  obtain ⟨q, hq⟩ : ∃ q, s.extract k m = q := ⟨_, rfl⟩
  have hqs : q.size ≤ 300 := by rw [← hq, ByteArray.size_extract]; omega
  have hqq : q.data.toList = l.take (numE l) := by rw [← hq, ← hm, sub_bs, hll]; rfl
  have c3 := fun W => parse_any q W (by unfold maxLen; omega)
  rw [hqq] at c3
  have H0 : Hid (rdK (l.take (numE l)) = 0 → numR l = .error 4) := numR_0
  have H2 : Hid (rdK (l.take (numE l)) = 2 → numR l = .error 2) := numR_2
  have H1 : Hid (rdK (l.take (numE l)) = 1 → numR l = .ok (0, [], rdV (l.take (numE l)), 0, numE l)) := numR_1
  have HM : Hid (k + numE l = m) := hm
  have HD : Hid (s.data.toList.drop k = l) := hll
  have HK : Hid (rdK (l.take (numE l)) = 0 ∨ rdK (l.take (numE l)) = 1 ∨ rdK (l.take (numE l)) = 2) := rdK_three _
  obtain ⟨K, hK⟩ : ∃ K, rdK (l.take (numE l)) = K := ⟨_, rfl⟩
  obtain ⟨V, hV⟩ : ∃ V, rdV (l.take (numE l)) = V := ⟨_, rfl⟩
  rw [hK] at c3 H0 H1 H2 HK
  rw [hV] at c3 H1
  obtain ⟨n1, hn1⟩ : ∃ n1, run dgB l = n1 := ⟨_, rfl⟩
  obtain ⟨e1, he1⟩ : ∃ e1, k + n1 = e1 := ⟨_, rfl⟩
  have n2 := numE_end l
  have n3 := numE_no l
  have n4 := numE_nod l
  have n5 := numE_dot l
  rw [hn1] at c1 n2 n3 n4 n5 hr hng
  rw [he1] at c1
  have e1a : k ≤ e1 := by omega
  have e1b : e1 ≤ s.size := by omega
  by_cases h1 : e1 + 1 < s.size
  · have hl1 : (e1 : Int) + 1 < (s.size : Int) := by omega
    have hx0 := hat n1 (by omega)
    have hx1 := hat (n1 + 1) (by omega)
    have g1 : e1 < s.size := by omega
    have ea : s[k + n1] = s[e1] := by congr 1
    have eb : s[k + (n1 + 1)] = s[e1 + 1] := by congr 1; omega
    rw [ea] at hx0
    rw [eb] at hx1
    have hb := byte_ne (c := s[e1]) 46 (by omega)
    by_cases h2 : s[e1] = 46
    · have tb : (((s[e1]).toNat : Int) == 46) = true := by rw [show (46 : Int) = ((46 : Nat) : Int) from rfl, hb, h2]; rfl
      have c2 := fun W => isDigit_any s[e1 + 1] W
      cases h3 : dgB s[e1 + 1]
      · rw [h3] at c2
        have hme : m = e1 := by have := n4 _ hx1 h3; omega
        subst hme
        clear ea eb hx0 hx1 hb h2 h3
        clear hr hat hn hng hm hqq hK hV hn1 he1 n2 n3 n4 n5 hlen hl hll hk
        go_enter Tryz.func171, Tryz.ntmps171
        rcases HK.out with k0 | k0 | k0
        · subst k0
          have R0 : Hid (numR l = .error 4) := H0.out rfl
          clear H0 H1 H2 HK
          go_wp2_with fail
          refine (c1 _).mono ?_
          rintro e w1 ⟨rfl, rfl⟩
          go_wp2_with fail
          refine (c2 _).mono ?_
          rintro e w2 ⟨rfl, rfl⟩
          go_wp2_with fail
          refine (c3 _).mono ?_
          rintro e w3 ⟨rfl, E3⟩
          have X3 := ((Ext.refl w).alloc _).trans E3
          go_wp2_with fail
          exact ⟨rfl, by rw [R0.out]; rfl, X3⟩
        · subst k0
          have R0 : Hid (numR l = .ok (0, [], V, 0, numE l)) := H1.out rfl
          clear H0 H1 H2 HK
          go_wp2_with fail
          refine (c1 _).mono ?_
          rintro e w1 ⟨rfl, rfl⟩
          go_wp2_with fail
          refine (c2 _).mono ?_
          rintro e w2 ⟨rfl, rfl⟩
          go_wp2_with fail
          refine (c3 _).mono ?_
          rintro e w3 ⟨rfl, E3⟩
          have B3 := blk5_top rfl E3
          have X3 := ((Ext.refl w).alloc _).trans E3
          have D3 := B3
          obtain ⟨_, ⟨b0, b1, b2, b3, b4⟩, f0, f1, f2, f3, f4⟩ := D3
          clear E3
          go_wp2_with fail
          refine fin5 _ (B3.set _ _ _ _ _) rfl (by with_reducible repeat (first | assumption | exact Ext.refl _ | apply Ext.alloc | apply Ext.drewN | (refine Ext.setCell ?_ (by simp) _))) (fun g0 g1 g2 g3 g4 => by simp [results, Tryz.results171, go_sem, g0, g1, g2, g3, g4]; rfl) (fun h => ⟨?_, h⟩)
          rw [R0.out]
          exact nx_fin (0, [], V, 0, numE l) k _ (by rw [HM.out])
        · subst k0
          have R0 : Hid (numR l = .error 2) := H2.out rfl
          clear H0 H1 H2 HK
          go_wp2_with fail
          refine (c1 _).mono ?_
          rintro e w1 ⟨rfl, rfl⟩
          go_wp2_with fail
          refine (c2 _).mono ?_
          rintro e w2 ⟨rfl, rfl⟩
          go_wp2_with fail
          refine (c3 _).mono ?_
          rintro e w3 ⟨rfl, E3⟩
          have X3 := ((Ext.refl w).alloc _).trans E3
          go_wp2_with fail
          exact ⟨rfl, by rw [R0.out]; rfl, X3⟩
      · rw [h3] at c2
        have c4 := fun W => past_digit s (e1 + 1) W (by omega) hs
        have hdd : s.data.toList.drop (e1 + 1) = l.drop (n1 + 1) := by rw [← hll, List.drop_drop]; congr 1; omega
        have hme : e1 + 1 + run dgB (s.data.toList.drop (e1 + 1)) = m := by rw [hdd]; have := n5 _ (by rw [hx0, h2]) hx1 h3; omega
        rw [hme] at c4
        clear ea eb hx0 hx1 hb h2 h3 hdd hme
        clear hr hat hn hng hm hqq hK hV hn1 he1 n2 n3 n4 n5 hlen hl hll hk
        go_enter Tryz.func171, Tryz.ntmps171
        rcases HK.out with k0 | k0 | k0
        · subst k0
          have R0 : Hid (numR l = .error 4) := H0.out rfl
          clear H0 H1 H2 HK
          go_wp2_with fail
          refine (c1 _).mono ?_
          rintro e w1 ⟨rfl, rfl⟩
          go_wp2_with fail
          refine (c2 _).mono ?_
          rintro e w2 ⟨rfl, rfl⟩
          go_wp2_with fail
          refine (c4 _).mono ?_
          rintro e w4 ⟨rfl, rfl⟩
          go_wp2_with fail
          refine (c3 _).mono ?_
          rintro e w3 ⟨rfl, E3⟩
          have X3 := ((Ext.refl w).alloc _).trans E3
          go_wp2_with fail
          exact ⟨rfl, by rw [R0.out]; rfl, X3⟩
        · subst k0
          have R0 : Hid (numR l = .ok (0, [], V, 0, numE l)) := H1.out rfl
          clear H0 H1 H2 HK
          go_wp2_with fail
          refine (c1 _).mono ?_
          rintro e w1 ⟨rfl, rfl⟩
          go_wp2_with fail
          refine (c2 _).mono ?_
          rintro e w2 ⟨rfl, rfl⟩
          go_wp2_with fail
          refine (c4 _).mono ?_
          rintro e w4 ⟨rfl, rfl⟩
          go_wp2_with fail
          refine (c3 _).mono ?_
          rintro e w3 ⟨rfl, E3⟩
          have B3 := blk5_top rfl E3
          have X3 := ((Ext.refl w).alloc _).trans E3
          have D3 := B3
          obtain ⟨_, ⟨b0, b1, b2, b3, b4⟩, f0, f1, f2, f3, f4⟩ := D3
          clear E3
          go_wp2_with fail
          refine fin5 _ (B3.set _ _ _ _ _) rfl (by with_reducible repeat (first | assumption | exact Ext.refl _ | apply Ext.alloc | apply Ext.drewN | (refine Ext.setCell ?_ (by simp) _))) (fun g0 g1 g2 g3 g4 => by simp [results, Tryz.results171, go_sem, g0, g1, g2, g3, g4]; rfl) (fun h => ⟨?_, h⟩)
          rw [R0.out]
          exact nx_fin (0, [], V, 0, numE l) k _ (by rw [HM.out])
        · subst k0
          have R0 : Hid (numR l = .error 2) := H2.out rfl
          clear H0 H1 H2 HK
          go_wp2_with fail
          refine (c1 _).mono ?_
          rintro e w1 ⟨rfl, rfl⟩
          go_wp2_with fail
          refine (c2 _).mono ?_
          rintro e w2 ⟨rfl, rfl⟩
          go_wp2_with fail
          refine (c4 _).mono ?_
          rintro e w4 ⟨rfl, rfl⟩
          go_wp2_with fail
          refine (c3 _).mono ?_
          rintro e w3 ⟨rfl, E3⟩
          have X3 := ((Ext.refl w).alloc _).trans E3
          go_wp2_with fail
          exact ⟨rfl, by rw [R0.out]; rfl, X3⟩
    · have tb : (((s[e1]).toNat : Int) == 46) = false := by rw [show (46 : Int) = ((46 : Nat) : Int) from rfl, hb]; simpa using h2
      have hme : m = e1 := by have := n3 _ hx0 h2; omega
      subst hme
      clear ea eb hx0 hx1 hb h2
      clear hr hat hn hng hm hqq hK hV hn1 he1 n2 n3 n4 n5 hlen hl hll hk
      go_enter Tryz.func171, Tryz.ntmps171
      rcases HK.out with k0 | k0 | k0
      · subst k0
        have R0 : Hid (numR l = .error 4) := H0.out rfl
        clear H0 H1 H2 HK
        go_wp2_with fail
        refine (c1 _).mono ?_
        rintro e w1 ⟨rfl, rfl⟩
        go_wp2_with fail
        refine (c3 _).mono ?_
        rintro e w3 ⟨rfl, E3⟩
        have X3 := ((Ext.refl w).alloc _).trans E3
        go_wp2_with fail
        exact ⟨rfl, by rw [R0.out]; rfl, X3⟩
      · subst k0
        have R0 : Hid (numR l = .ok (0, [], V, 0, numE l)) := H1.out rfl
        clear H0 H1 H2 HK
        go_wp2_with fail
        refine (c1 _).mono ?_
        rintro e w1 ⟨rfl, rfl⟩
        go_wp2_with fail
        refine (c3 _).mono ?_
        rintro e w3 ⟨rfl, E3⟩
        have B3 := blk5_top rfl E3
        have X3 := ((Ext.refl w).alloc _).trans E3
        have D3 := B3
        obtain ⟨_, ⟨b0, b1, b2, b3, b4⟩, f0, f1, f2, f3, f4⟩ := D3
        clear E3
        go_wp2_with fail
        refine fin5 _ (B3.set _ _ _ _ _) rfl (by with_reducible repeat (first | assumption | exact Ext.refl _ | apply Ext.alloc | apply Ext.drewN | (refine Ext.setCell ?_ (by simp) _))) (fun g0 g1 g2 g3 g4 => by simp [results, Tryz.results171, go_sem, g0, g1, g2, g3, g4]; rfl) (fun h => ⟨?_, h⟩)
        rw [R0.out]
        exact nx_fin (0, [], V, 0, numE l) k _ (by rw [HM.out])
      · subst k0
        have R0 : Hid (numR l = .error 2) := H2.out rfl
        clear H0 H1 H2 HK
        go_wp2_with fail
        refine (c1 _).mono ?_
        rintro e w1 ⟨rfl, rfl⟩
        go_wp2_with fail
        refine (c3 _).mono ?_
        rintro e w3 ⟨rfl, E3⟩
        have X3 := ((Ext.refl w).alloc _).trans E3
        go_wp2_with fail
        exact ⟨rfl, by rw [R0.out]; rfl, X3⟩
  · have hl1 : ¬ (e1 : Int) + 1 < (s.size : Int) := by omega
    have hme : m = e1 := by have := n2 (by omega); omega
    subst hme
    clear hr hat hn hng hm hqq hK hV hn1 he1 n2 n3 n4 n5 hlen hl hll hk
    go_enter Tryz.func171, Tryz.ntmps171
    rcases HK.out with k0 | k0 | k0
    · subst k0
      have R0 : Hid (numR l = .error 4) := H0.out rfl
      clear H0 H1 H2 HK
      go_wp2_with fail
      refine (c1 _).mono ?_
      rintro e w1 ⟨rfl, rfl⟩
      go_wp2_with fail
      refine (c3 _).mono ?_
      rintro e w3 ⟨rfl, E3⟩
      have X3 := ((Ext.refl w).alloc _).trans E3
      go_wp2_with fail
      exact ⟨rfl, by rw [R0.out]; rfl, X3⟩
    · subst k0
      have R0 : Hid (numR l = .ok (0, [], V, 0, numE l)) := H1.out rfl
      clear H0 H1 H2 HK
      go_wp2_with fail
      refine (c1 _).mono ?_
      rintro e w1 ⟨rfl, rfl⟩
      go_wp2_with fail
      refine (c3 _).mono ?_
      rintro e w3 ⟨rfl, E3⟩
      have B3 := blk5_top rfl E3
      have X3 := ((Ext.refl w).alloc _).trans E3
      have D3 := B3
      obtain ⟨_, ⟨b0, b1, b2, b3, b4⟩, f0, f1, f2, f3, f4⟩ := D3
      clear E3
      go_wp2_with fail
      refine fin5 _ (B3.set _ _ _ _ _) rfl (by with_reducible repeat (first | assumption | exact Ext.refl _ | apply Ext.alloc | apply Ext.drewN | (refine Ext.setCell ?_ (by simp) _))) (fun g0 g1 g2 g3 g4 => by simp [results, Tryz.results171, go_sem, g0, g1, g2, g3, g4]; rfl) (fun h => ⟨?_, h⟩)
      rw [R0.out]
      exact nx_fin (0, [], V, 0, numE l) k _ (by rw [HM.out])
    · subst k0
      have R0 : Hid (numR l = .error 2) := H2.out rfl
      clear H0 H1 H2 HK
      go_wp2_with fail
      refine (c1 _).mono ?_
      rintro e w1 ⟨rfl, rfl⟩
      go_wp2_with fail
      refine (c3 _).mono ?_
      rintro e w3 ⟨rfl, E3⟩
      have X3 := ((Ext.refl w).alloc _).trans E3
      go_wp2_with fail
      exact ⟨rfl, by rw [R0.out]; rfl, X3⟩
end Go.Proofs.YtdjniiginnlmhaaGreatDoor

namespace Go.Proofs.YtdjniiginnlmhaaGreatDoor
open Go.RowKit
set_option maxHeartbeats 1000000

def kindN (c : UInt8) : Int := if dgB c then 1 else if ltB c then 2 else 0
theorem qkind_any (c : UInt8) (w : World) : Calls Tryz.prog 105 #[.int .u8 (c.toNat : Int)] w fun e w' => e = .returned (.int .i64 (kindN c)) ∧ w' = w := by
  by_cases h1 : (48 : Int) ≤ c.toNat ∧ (c.toNat : Int) ≤ 57
  · have H : Hid (kindN c = 1) := by show _ = _; unfold kindN; rw [if_pos]; unfold dgB; simp; omega
    obtain ⟨g1, g2⟩ := h1
    go_enter Tryz.func105, Tryz.ntmps105
    go_wp2
    go_ret
    exact ⟨ret_int H.out.symm, rfl⟩
  have hd : dgB c = false := by unfold dgB; simp; omega
  by_cases h2 : (97 : Int) ≤ c.toNat ∧ (c.toNat : Int) ≤ 122
  · have H : Hid (kindN c = 2) := by show _ = _; unfold kindN; rw [hd, lt_yes (.inr h2)]; rfl
    obtain ⟨g1, g2⟩ := h2
    have g3 : (48 : Int) ≤ c.toNat := by omega
    have g4 : ¬ (c.toNat : Int) ≤ 57 := by omega
    clear h1 hd
    go_enter Tryz.func105, Tryz.ntmps105
    go_wp2
    go_ret
    exact ⟨ret_int H.out.symm, rfl⟩
  by_cases h3 : (65 : Int) ≤ c.toNat ∧ (c.toNat : Int) ≤ 90
  · have H : Hid (kindN c = 2) := by show _ = _; unfold kindN; rw [hd, lt_yes (.inl h3)]; rfl
    obtain ⟨g1, g2⟩ := h3
    have g3 : (48 : Int) ≤ c.toNat := by omega
    have g4 : ¬ (c.toNat : Int) ≤ 57 := by omega
    have g5 : ¬ (97 : Int) ≤ c.toNat := by omega
    clear h1 h2 hd
    go_enter Tryz.func105, Tryz.ntmps105
    go_wp2
    go_ret
    exact ⟨ret_int H.out.symm, rfl⟩
  have hl := lt_no h3 h2
  by_cases h4 : (c.toNat : Int) = 36
  · have H : Hid (kindN c = 2) := by show _ = _; unfold kindN; rw [hd, hl, h4]; rfl
    clear h1 h2 h3 hd hl
    rw [h4]
    go_enter Tryz.func105, Tryz.ntmps105
    go_wp2
    go_ret
    exact ⟨ret_int H.out.symm, rfl⟩
  · have t4 : ((c.toNat : Int) == 36) = false := by simpa using h4
    have H : Hid (kindN c = 0) := by show _ = _; unfold kindN; rw [hd, hl, t4]; rfl
    clear hd hl
    by_cases g1 : (48 : Int) ≤ c.toNat
    · have g2 : ¬ (c.toNat : Int) ≤ 57 := by omega
      by_cases g3 : (97 : Int) ≤ c.toNat
      · have g4 : ¬ (c.toNat : Int) ≤ 122 := by omega
        have g5 : (65 : Int) ≤ c.toNat := by omega
        have g6 : ¬ (c.toNat : Int) ≤ 90 := by omega
        clear h1 h2 h3
        go_enter Tryz.func105, Tryz.ntmps105
        go_wp2
        go_ret
        exact ⟨ret_int H.out.symm, rfl⟩
      · by_cases g5 : (65 : Int) ≤ c.toNat
        · have g6 : ¬ (c.toNat : Int) ≤ 90 := by omega
          clear h1 h2 h3
          go_enter Tryz.func105, Tryz.ntmps105
          go_wp2
          go_ret
          exact ⟨ret_int H.out.symm, rfl⟩
        · clear h1 h2 h3
          go_enter Tryz.func105, Tryz.ntmps105
          go_wp2
          go_ret
          exact ⟨ret_int H.out.symm, rfl⟩
    · have g3 : ¬ (97 : Int) ≤ c.toNat := by omega
      have g5 : ¬ (65 : Int) ≤ c.toNat := by omega
      clear h1 h2 h3
      go_enter Tryz.func105, Tryz.ntmps105
      go_wp2
      go_ret
      exact ⟨ret_int H.out.symm, rfl⟩

theorem pre_takew (p l : List UInt8) : p.isPrefixOf l = (decide (p.length ≤ l.length) && (l.take p.length == p)) := by
  rw [Bool.eq_iff_iff, List.isPrefixOf_iff_prefix, List.prefix_iff_eq_take]
  simp
  constructor
  · intro h; exact ⟨by have := congrArg List.length h; simp at this; omega, h.symm⟩
  · intro h; exact h.2.symm
theorem qis_any (s t : ByteArray) (k : Nat) (w : World) (hk : k ≤ s.size) (hs : s.size ≤ 300) (ht : t.size ≤ 10) :
    Calls Tryz.prog 108 #[.string s, .int .i64 (k : Int), .string t] w fun e w' => e = .returned (.bool (t.data.toList.isPrefixOf (s.data.toList.drop k))) ∧ w' = w := by
  have hl := size_list s
  have hlt := size_list t
  have hp := pre_takew t.data.toList (s.data.toList.drop k)
  by_cases h : k + t.size ≤ s.size
  · have hI : (k : Int) + (t.size : Int) ≤ (s.size : Int) := by omega
    have e1 : (s.extract k (k + t.size)).toList = (s.data.toList.drop k).take t.data.toList.length := by
      rw [sub_bs, ByteArray.toList_eq, hlt]; rfl
    have H : Hid (t.data.toList.isPrefixOf (s.data.toList.drop k) = ((s.extract k (k + t.size)).toList == t.toList)) := by
      show _ = _
      rw [hp, e1, ByteArray.toList_eq, decide_eq_true (by simp; omega)]; rfl
    obtain ⟨m, hm⟩ : ∃ m, k + t.size = m := ⟨_, rfl⟩
    have m0 : (k : Int) + (t.size : Int) = (m : Int) := by omega
    have m1 : k ≤ m := by omega
    have m2 : m ≤ s.size := by omega
    rw [hm] at H
    clear hp e1 hl hlt h hm hI
    have hI : (m : Int) ≤ (s.size : Int) := by omega
    rw [H.out]
    go_enter Tryz.func108, Tryz.ntmps108
    go_wp2
    go_ret
    exact ⟨rfl, rfl⟩
  · have hI : ¬ (k : Int) + (t.size : Int) ≤ (s.size : Int) := by omega
    have H : Hid (t.data.toList.isPrefixOf (s.data.toList.drop k) = false) := by
      show _ = _
      rw [hp, decide_eq_false (by simp; omega)]; rfl
    clear hp hl hlt h
    rw [H.out]
    go_enter Tryz.func108, Tryz.ntmps108
    go_wp2
    go_ret
    exact ⟨rfl, rfl⟩
theorem kind_one (c : UInt8) : (kindN c == 1) = dgB c := by
  unfold kindN; cases dgB c
  · cases ltB c <;> rfl
  · rfl
theorem qdigits_any (s : ByteArray) (k : Nat) (w : World) (hk : k ≤ s.size) (hs : s.size ≤ 300) :
    Calls Tryz.prog 138 #[.string s, .int .i64 (k : Int)] w fun e w' => e = .returned (.int .i64 ((k + run dgB (s.data.toList.drop k) : Nat) : Int)) ∧ w' = w := by
  have hl := size_list s
  have HS : Hid (s.data.toList.length = s.size) := hl
  clear hl
  go_enter Tryz.func138, Tryz.ntmps138
  go_wp2
  go_loop [1] (fun i => ∃ j : Nat, j ≤ s.size ∧ i = .int .i64 j ∧ k + run dgB (s.data.toList.drop k) = j + run dgB (s.data.toList.drop j)) (fun i => s.size - (intOf i).toNat)
  case atStart => exact ⟨k, hk, rfl, rfl⟩
  case round =>
    obtain ⟨j, hj, rfl, ha⟩ := hrel
    have HA : Hid (k + run dgB (s.data.toList.drop k) = j + run dgB (s.data.toList.drop j)) := ha
    clear ha hk
    by_cases hlt : j < s.size
    · have HT : Hid (run dgB (s.data.toList.drop j) = if dgB s[j] then run dgB (s.data.toList.drop (j + 1)) + 1 else 0) := run_at dgB s.data.toList j (by have := HS.out; omega)
      have c1 := fun W => qkind_any s[j] W
      have k1 := kind_one s[j]
      cases hp : dgB s[j]
      · rw [hp] at k1
        have HP : Hid (dgB s[j] = false) := hp
        clear hp
        go_wp2_with fail
        refine (c1 _).mono ?_
        rintro e w1 ⟨rfl, rfl⟩
        go_wp2_with fail
        go_ret
        refine ⟨ret_int ?_, rfl⟩
        rw [HA.out, HT.out, HP.out]; simp
      · rw [hp] at k1
        have HP : Hid (dgB s[j] = true) := hp
        clear hp
        go_wp2_with fail
        refine (c1 _).mono ?_
        rintro e w1 ⟨rfl, rfl⟩
        go_wp2_with fail
        go_round
        case rel => exact ⟨j + 1, by omega, by go_num, by rw [HA.out, HT.out, HP.out]; simp; omega⟩
        case measure => simp [intOf]; omega
    · have HT : Hid (run dgB (s.data.toList.drop j) = 0) := run_off dgB s.data.toList j (by have := HS.out; omega)
      go_wp2_with fail
      go_ret
      refine ⟨ret_int ?_, rfl⟩
      have h1 := HA.out
      have h2 := HT.out
      omega

/-- How the document answers a word that begins at a place. -/
def RxR (r : Except Int Wd) (k : Nat) (e : Ending) : Prop :=
  match r with
  | .ok x => e = .returned (.tuple #[.agg #[.int .i64 x.1, .int .i64 (k : Int), .string (bs x.2.1), .int .i64 x.2.2.1, .int .i64 x.2.2.2.1], .int .i64 ((k + x.2.2.2.2 : Nat) : Int), .int .i64 0])
  | .error c => e = .returned (.tuple #[.agg #[.int .i64 0, .int .i64 0, .string ⟨#[]⟩, .int .i64 0, .int .i64 0], .int .i64 (k : Int), .int .i64 c])
theorem rx_fin (x : Wd) (k : Nat) (i : Int) (hi : i = ((k + x.2.2.2.2 : Nat) : Int)) :
    RxR (.ok x) k (.returned (.tuple #[.agg #[.int .i64 x.1, .int .i64 (k : Int), .string (bs x.2.1), .int .i64 x.2.2.1, .int .i64 x.2.2.2.1], .int .i64 i, .int .i64 0])) := by subst hi; rfl

theorem qnumber_any (s : ByteArray) (k : Nat) (w : World) (hk : k ≤ s.size) (hs : s.size ≤ 300) :
    Calls Tryz.prog 106 #[.string s, .int .i64 (k : Int)] w fun e w' => RxR (numR (s.data.toList.drop k)) k e ∧ Ext w w' := by
  have hl := size_list s
  obtain ⟨l, hll⟩ : ∃ l, s.data.toList.drop k = l := ⟨_, rfl⟩
  have hlen : l.length = s.size - k := by rw [← hll]; simp [hl]
  have c1 := fun W => qdigits_any s k W hk hs
  have hr := runL_le dgB l
  rw [hll] at c1 ⊢
  have hn := numE_le l
  have hng := numE_ge l
  obtain ⟨m, hm⟩ : ∃ m, k + numE l = m := ⟨_, rfl⟩
  have m1 : k ≤ m := by omega
  have m2 : m ≤ s.size := by omega
  obtain ⟨q, hq⟩ : ∃ q, s.extract k m = q := ⟨_, rfl⟩
  have hqs : q.size ≤ 300 := by rw [← hq, ByteArray.size_extract]; omega
  have hqq : q.data.toList = l.take (numE l) := by rw [← hq, ← hm, sub_bs, hll]; rfl
  have c3 := fun W => rparse_any q W (by unfold maxLen; omega)
  rw [hqq] at c3
  have H0 : Hid (rdK (l.take (numE l)) = 0 → numR l = .error 4) := numR_0
  have H2 : Hid (rdK (l.take (numE l)) = 2 → numR l = .error 2) := numR_2
  have H1 : Hid (rdK (l.take (numE l)) = 1 → numR l = .ok (0, [], rdV (l.take (numE l)), 0, numE l)) := numR_1
  have HM : Hid (k + numE l = m) := hm
  have HK : Hid (rdK (l.take (numE l)) = 0 ∨ rdK (l.take (numE l)) = 1 ∨ rdK (l.take (numE l)) = 2) := rdK_three _
  obtain ⟨K, hK⟩ : ∃ K, rdK (l.take (numE l)) = K := ⟨_, rfl⟩
  obtain ⟨V, hV⟩ : ∃ V, rdV (l.take (numE l)) = V := ⟨_, rfl⟩
  rw [hK] at c3 H0 H1 H2 HK
  rw [hV] at c3 H1
  obtain ⟨n1, hn1⟩ : ∃ n1, run dgB l = n1 := ⟨_, rfl⟩
  obtain ⟨e1, he1⟩ : ∃ e1, k + n1 = e1 := ⟨_, rfl⟩
  rw [hn1] at c1 hr hng
  rw [he1] at c1
  have e1a : k ≤ e1 := by omega
  have e1b : e1 ≤ s.size := by omega
  have hdr : s.data.toList.drop e1 = l.drop n1 := by rw [← hll, List.drop_drop]; congr 1; omega
  have c2 := fun W => qis_any s ⟨#[46]⟩ e1 W e1b hs (by decide)
  rw [hdr] at c2
  have hdot : ((⟨#[46]⟩ : ByteArray).data.toList.isPrefixOf (l.drop n1)) = decide (l[n1]? = some 46) := by
    show List.isPrefixOf [46] (l.drop n1) = _
    rw [Bool.eq_iff_iff]
    rw [← List.head?_drop]
    cases l.drop n1 with
    | nil => simp
    | cons c r => simp [List.isPrefixOf]; exact eq_comm
  rw [hdot] at c2
  have hE : numE l = if l[n1]? = some 46 ∧ 0 < run dgB (l.drop (n1 + 1)) then n1 + 1 + run dgB (l.drop (n1 + 1)) else n1 := by unfold numE; rw [hn1]
  have wk : wrap64 ((e1 : Int) + 1) = ((e1 + 1 : Nat) : Int) := by unfold wrap64; omega
  by_cases h1 : l[n1]? = some 46
  · rw [decide_eq_true h1] at c2
    have hb : e1 + 1 ≤ s.size := by have := (List.getElem?_eq_some_iff.mp h1).1; clear hE wk hdot; omega
    have c4 := fun W => qdigits_any s (e1 + 1) W hb hs
    have hdd : s.data.toList.drop (e1 + 1) = l.drop (n1 + 1) := by rw [← hll, List.drop_drop]; congr 1; omega
    rw [hdd] at c4
    by_cases h2 : 0 < run dgB (l.drop (n1 + 1))
    · rw [if_pos ⟨h1, h2⟩] at hE
      have hme : e1 + 1 + run dgB (l.drop (n1 + 1)) = m := by omega
      rw [hme] at c4
      have g1 : (e1 : Int) + 1 < (m : Int) := by omega
      clear h1 h2 hdd hme hb
      clear hr hn hng hm hqq hK hV hn1 he1 hE hlen hl hll hk hdr hdot
      go_enter Tryz.func106, Tryz.ntmps106
      rcases HK.out with k0 | k0 | k0
      · subst k0
        have R0 : Hid (numR l = .error 4) := H0.out rfl
        clear H0 H1 H2 HK
        go_wp2_with fail
        refine (c1 _).mono ?_
        rintro e w1 ⟨rfl, rfl⟩
        go_wp2_with fail
        refine (c2 _).mono ?_
        rintro e w2 ⟨rfl, rfl⟩
        go_wp2_with fail
        refine (c4 _).mono ?_
        rintro e w2 ⟨rfl, rfl⟩
        go_wp2_with fail
        refine (c4 _).mono ?_
        rintro e w2 ⟨rfl, rfl⟩
        go_wp2_with fail
        refine (c3 _).mono ?_
        rintro e w3 ⟨rfl, E3⟩
        have B3 := blk5_top rfl E3
        have X3 := ((Ext.refl w).alloc _).trans E3
        have D3 := B3
        obtain ⟨_, ⟨b0, b1, b2, b3, b4⟩, f0, f1, f2, f3, f4⟩ := D3
        clear E3
        go_wp2_with fail
        refine fin5 _ (B3.set _ _ _ _ _) rfl (by with_reducible repeat (first | assumption | exact Ext.refl _ | apply Ext.alloc | apply Ext.drewN | (refine Ext.setCell ?_ (by simp) _))) (fun g0 g1 g2 g3 g4 => by simp [results, Tryz.results106, go_sem, g0, g1, g2, g3, g4]; rfl) (fun h => ⟨?_, h⟩)
        rw [R0.out]
        exact rfl
      · subst k0
        have R0 : Hid (numR l = .ok (0, [], V, 0, numE l)) := H1.out rfl
        clear H0 H1 H2 HK
        go_wp2_with fail
        refine (c1 _).mono ?_
        rintro e w1 ⟨rfl, rfl⟩
        go_wp2_with fail
        refine (c2 _).mono ?_
        rintro e w2 ⟨rfl, rfl⟩
        go_wp2_with fail
        refine (c4 _).mono ?_
        rintro e w2 ⟨rfl, rfl⟩
        go_wp2_with fail
        refine (c4 _).mono ?_
        rintro e w2 ⟨rfl, rfl⟩
        go_wp2_with fail
        refine (c3 _).mono ?_
        rintro e w3 ⟨rfl, E3⟩
        have B3 := blk5_top rfl E3
        have X3 := ((Ext.refl w).alloc _).trans E3
        have D3 := B3
        obtain ⟨_, ⟨b0, b1, b2, b3, b4⟩, f0, f1, f2, f3, f4⟩ := D3
        clear E3
        go_wp2_with fail
        refine fin5 _ (B3.set _ _ _ _ _) rfl (by with_reducible repeat (first | assumption | exact Ext.refl _ | apply Ext.alloc | apply Ext.drewN | (refine Ext.setCell ?_ (by simp) _))) (fun g0 g1 g2 g3 g4 => by simp [results, Tryz.results106, go_sem, g0, g1, g2, g3, g4]; rfl) (fun h => ⟨?_, h⟩)
        rw [R0.out]
        exact rx_fin (0, [], V, 0, numE l) k _ (by rw [HM.out])
      · subst k0
        have R0 : Hid (numR l = .error 2) := H2.out rfl
        clear H0 H1 H2 HK
        go_wp2_with fail
        refine (c1 _).mono ?_
        rintro e w1 ⟨rfl, rfl⟩
        go_wp2_with fail
        refine (c2 _).mono ?_
        rintro e w2 ⟨rfl, rfl⟩
        go_wp2_with fail
        refine (c4 _).mono ?_
        rintro e w2 ⟨rfl, rfl⟩
        go_wp2_with fail
        refine (c4 _).mono ?_
        rintro e w2 ⟨rfl, rfl⟩
        go_wp2_with fail
        refine (c3 _).mono ?_
        rintro e w3 ⟨rfl, E3⟩
        have B3 := blk5_top rfl E3
        have X3 := ((Ext.refl w).alloc _).trans E3
        have D3 := B3
        obtain ⟨_, ⟨b0, b1, b2, b3, b4⟩, f0, f1, f2, f3, f4⟩ := D3
        clear E3
        go_wp2_with fail
        refine fin5 _ (B3.set _ _ _ _ _) rfl (by with_reducible repeat (first | assumption | exact Ext.refl _ | apply Ext.alloc | apply Ext.drewN | (refine Ext.setCell ?_ (by simp) _))) (fun g0 g1 g2 g3 g4 => by simp [results, Tryz.results106, go_sem, g0, g1, g2, g3, g4]; rfl) (fun h => ⟨?_, h⟩)
        rw [R0.out]
        exact rfl
    · rw [if_neg (fun h => h2 h.2)] at hE
      have hme : m = e1 := by omega
      have hme2 : e1 + 1 + run dgB (l.drop (n1 + 1)) = e1 + 1 := by omega
      rw [hme2] at c4
      subst hme
      have g1 : ¬ (m : Int) + 1 < (m : Int) + 1 := by omega
      clear h1 h2 hdd hme2 hb
      clear hr hn hng hm hqq hK hV hn1 hE hlen hl hll hk hdr hdot
      go_enter Tryz.func106, Tryz.ntmps106
      rcases HK.out with k0 | k0 | k0
      · subst k0
        have R0 : Hid (numR l = .error 4) := H0.out rfl
        clear H0 H1 H2 HK
        go_wp2_with fail
        refine (c1 _).mono ?_
        rintro e w1 ⟨rfl, rfl⟩
        go_wp2_with fail
        refine (c2 _).mono ?_
        rintro e w2 ⟨rfl, rfl⟩
        go_wp2_with fail
        refine (c4 _).mono ?_
        rintro e w2 ⟨rfl, rfl⟩
        go_wp2_with fail
        refine (c3 _).mono ?_
        rintro e w3 ⟨rfl, E3⟩
        have B3 := blk5_top rfl E3
        have X3 := ((Ext.refl w).alloc _).trans E3
        have D3 := B3
        obtain ⟨_, ⟨b0, b1, b2, b3, b4⟩, f0, f1, f2, f3, f4⟩ := D3
        clear E3
        go_wp2_with fail
        refine fin5 _ (B3.set _ _ _ _ _) rfl (by with_reducible repeat (first | assumption | exact Ext.refl _ | apply Ext.alloc | apply Ext.drewN | (refine Ext.setCell ?_ (by simp) _))) (fun g0 g1 g2 g3 g4 => by simp [results, Tryz.results106, go_sem, g0, g1, g2, g3, g4]; rfl) (fun h => ⟨?_, h⟩)
        rw [R0.out]
        exact rfl
      · subst k0
        have R0 : Hid (numR l = .ok (0, [], V, 0, numE l)) := H1.out rfl
        clear H0 H1 H2 HK
        go_wp2_with fail
        refine (c1 _).mono ?_
        rintro e w1 ⟨rfl, rfl⟩
        go_wp2_with fail
        refine (c2 _).mono ?_
        rintro e w2 ⟨rfl, rfl⟩
        go_wp2_with fail
        refine (c4 _).mono ?_
        rintro e w2 ⟨rfl, rfl⟩
        go_wp2_with fail
        refine (c3 _).mono ?_
        rintro e w3 ⟨rfl, E3⟩
        have B3 := blk5_top rfl E3
        have X3 := ((Ext.refl w).alloc _).trans E3
        have D3 := B3
        obtain ⟨_, ⟨b0, b1, b2, b3, b4⟩, f0, f1, f2, f3, f4⟩ := D3
        clear E3
        go_wp2_with fail
        refine fin5 _ (B3.set _ _ _ _ _) rfl (by with_reducible repeat (first | assumption | exact Ext.refl _ | apply Ext.alloc | apply Ext.drewN | (refine Ext.setCell ?_ (by simp) _))) (fun g0 g1 g2 g3 g4 => by simp [results, Tryz.results106, go_sem, g0, g1, g2, g3, g4]; rfl) (fun h => ⟨?_, h⟩)
        rw [R0.out]
        exact rx_fin (0, [], V, 0, numE l) k _ (by rw [HM.out])
      · subst k0
        have R0 : Hid (numR l = .error 2) := H2.out rfl
        clear H0 H1 H2 HK
        go_wp2_with fail
        refine (c1 _).mono ?_
        rintro e w1 ⟨rfl, rfl⟩
        go_wp2_with fail
        refine (c2 _).mono ?_
        rintro e w2 ⟨rfl, rfl⟩
        go_wp2_with fail
        refine (c4 _).mono ?_
        rintro e w2 ⟨rfl, rfl⟩
        go_wp2_with fail
        refine (c3 _).mono ?_
        rintro e w3 ⟨rfl, E3⟩
        have B3 := blk5_top rfl E3
        have X3 := ((Ext.refl w).alloc _).trans E3
        have D3 := B3
        obtain ⟨_, ⟨b0, b1, b2, b3, b4⟩, f0, f1, f2, f3, f4⟩ := D3
        clear E3
        go_wp2_with fail
        refine fin5 _ (B3.set _ _ _ _ _) rfl (by with_reducible repeat (first | assumption | exact Ext.refl _ | apply Ext.alloc | apply Ext.drewN | (refine Ext.setCell ?_ (by simp) _))) (fun g0 g1 g2 g3 g4 => by simp [results, Tryz.results106, go_sem, g0, g1, g2, g3, g4]; rfl) (fun h => ⟨?_, h⟩)
        rw [R0.out]
        exact rfl
  · rw [decide_eq_false h1] at c2
    rw [if_neg (fun h => h1 h.1)] at hE
    have hme : m = e1 := by omega
    subst hme
    clear h1
    clear hr hn hng hm hqq hK hV hn1 hE hlen hl hll hk hdr hdot
    go_enter Tryz.func106, Tryz.ntmps106
    rcases HK.out with k0 | k0 | k0
    · subst k0
      have R0 : Hid (numR l = .error 4) := H0.out rfl
      clear H0 H1 H2 HK
      go_wp2_with fail
      refine (c1 _).mono ?_
      rintro e w1 ⟨rfl, rfl⟩
      go_wp2_with fail
      refine (c2 _).mono ?_
      rintro e w2 ⟨rfl, rfl⟩
      go_wp2_with fail
      refine (c3 _).mono ?_
      rintro e w3 ⟨rfl, E3⟩
      have B3 := blk5_top rfl E3
      have X3 := ((Ext.refl w).alloc _).trans E3
      have D3 := B3
      obtain ⟨_, ⟨b0, b1, b2, b3, b4⟩, f0, f1, f2, f3, f4⟩ := D3
      clear E3
      go_wp2_with fail
      refine fin5 _ (B3.set _ _ _ _ _) rfl (by with_reducible repeat (first | assumption | exact Ext.refl _ | apply Ext.alloc | apply Ext.drewN | (refine Ext.setCell ?_ (by simp) _))) (fun g0 g1 g2 g3 g4 => by simp [results, Tryz.results106, go_sem, g0, g1, g2, g3, g4]; rfl) (fun h => ⟨?_, h⟩)
      rw [R0.out]
      exact rfl
    · subst k0
      have R0 : Hid (numR l = .ok (0, [], V, 0, numE l)) := H1.out rfl
      clear H0 H1 H2 HK
      go_wp2_with fail
      refine (c1 _).mono ?_
      rintro e w1 ⟨rfl, rfl⟩
      go_wp2_with fail
      refine (c2 _).mono ?_
      rintro e w2 ⟨rfl, rfl⟩
      go_wp2_with fail
      refine (c3 _).mono ?_
      rintro e w3 ⟨rfl, E3⟩
      have B3 := blk5_top rfl E3
      have X3 := ((Ext.refl w).alloc _).trans E3
      have D3 := B3
      obtain ⟨_, ⟨b0, b1, b2, b3, b4⟩, f0, f1, f2, f3, f4⟩ := D3
      clear E3
      go_wp2_with fail
      refine fin5 _ (B3.set _ _ _ _ _) rfl (by with_reducible repeat (first | assumption | exact Ext.refl _ | apply Ext.alloc | apply Ext.drewN | (refine Ext.setCell ?_ (by simp) _))) (fun g0 g1 g2 g3 g4 => by simp [results, Tryz.results106, go_sem, g0, g1, g2, g3, g4]; rfl) (fun h => ⟨?_, h⟩)
      rw [R0.out]
      exact rx_fin (0, [], V, 0, numE l) k _ (by rw [HM.out])
    · subst k0
      have R0 : Hid (numR l = .error 2) := H2.out rfl
      clear H0 H1 H2 HK
      go_wp2_with fail
      refine (c1 _).mono ?_
      rintro e w1 ⟨rfl, rfl⟩
      go_wp2_with fail
      refine (c2 _).mono ?_
      rintro e w2 ⟨rfl, rfl⟩
      go_wp2_with fail
      refine (c3 _).mono ?_
      rintro e w3 ⟨rfl, E3⟩
      have B3 := blk5_top rfl E3
      have X3 := ((Ext.refl w).alloc _).trans E3
      have D3 := B3
      obtain ⟨_, ⟨b0, b1, b2, b3, b4⟩, f0, f1, f2, f3, f4⟩ := D3
      clear E3
      go_wp2_with fail
      refine fin5 _ (B3.set _ _ _ _ _) rfl (by with_reducible repeat (first | assumption | exact Ext.refl _ | apply Ext.alloc | apply Ext.drewN | (refine Ext.setCell ?_ (by simp) _))) (fun g0 g1 g2 g3 g4 => by simp [results, Tryz.results106, go_sem, g0, g1, g2, g3, g4]; rfl) (fun h => ⟨?_, h⟩)
      rw [R0.out]
      exact rfl
end Go.Proofs.YtdjniiginnlmhaaGreatDoor

namespace Go.Proofs.YtdjniiginnlmhaaGreatDoor
open Go.RowKit
set_option maxHeartbeats 1000000

theorem bld_info : ∃ j, Tryz.prog.info? 57 = some j ∧ j.size = 2 := by
  have h : (Tryz.prog.info? 57).map (fun i => i.size) = some 2 := by kernel_rfl
  obtain ⟨j, h1, h2⟩ := Option.map_eq_some_iff.1 h
  exact ⟨j, h1, h2⟩
theorem bld_lies : liesAt Tryz.prog Tryz.prog.depth 57 (2 / Tryz.prog.cellsOf 57) 0 57 1 = true := by kernel_rfl
theorem byte_info : ∃ i, Tryz.prog.info? 5 = some i ∧ i.zero = some (.int .u8 0) ∧ i.size = 1 ∧ i.bytes = 1 := by
  have h : (Tryz.prog.info? 5).map (fun i => (i.zero, i.size, i.bytes)) = some (some (.int .u8 0), 1, 1) := by kernel_rfl
  obtain ⟨j, h1, h2⟩ := Option.map_eq_some_iff.1 h
  simp at h2
  exact ⟨j, h1, h2⟩

set_option maxRecDepth 100000 in
/-- A builder that was used is let by. -/
theorem check_used (b : Nat) (w : World) (h0 : w.cell? ⟨b, 0, none⟩ = some (.pointer (some ⟨b, 0, none⟩))) :
    Calls Tryz.prog 93 #[.pointer (some ⟨b, 0, none⟩)] w fun e w' => e = .returned (.tuple #[]) ∧ w' = w := by
  obtain ⟨j, hj, _⟩ := bld_info
  go_enter Tryz.func93, Tryz.ntmps93
  go_wp2
  rw [Lib.run_neq_ptr_same w _ Tryz.underlying54 hj]
  go_wp2
  go_end0
  exact ⟨rfl, rfl⟩
set_option maxRecDepth 100000 in
/-- A new one lays its own address. -/
theorem check_new (b : Nat) (w : World) (h0 : w.cell? ⟨b, 0, none⟩ = some (.pointer none)) (hsh : w.shape? b = some (57, 2)) (hfz : w.frozen? ⟨b, 0, none⟩ = false) :
    Calls Tryz.prog 93 #[.pointer (some ⟨b, 0, none⟩)] w fun e w' => e = .returned (.tuple #[]) ∧ w' = w.setCell ⟨b, 0, none⟩ (.pointer (some ⟨b, 0, none⟩)) := by
  obtain ⟨j, hj, hjs⟩ := bld_info
  have q1 := Lib.run_to_unsafe (P := Tryz.prog) w ⟨b, 0, none⟩ Tryz.underlying54 Tryz.underlying165 hj (by omega) hsh (Nat.zero_lt_succ 1)
  have q3 := Lib.run_from_unsafe (P := Tryz.prog) w ⟨b, 0, none⟩ Tryz.underlying165 Tryz.underlying54 hj hsh bld_lies
  have q2 := run_callFunc_extern (P := Tryz.prog) Tryz.func129 (by kernel_rfl) (by kernel_rfl) (by kernel_rfl) (e := Extern.AbiNoEscape.same) (by kernel_rfl) #[.pointer (some ⟨b, 0, none⟩)] w
  rw [Lib.run_noEscape] at q2
  go_enter Tryz.func93, Tryz.ntmps93
  go_wp2
  go_end0
  exact ⟨rfl, rfl⟩
theorem check_any (B b : Nat) (l : List Value) (w : World) (h : Lib.IsBuilder 57 5 B b l w) :
    Calls Tryz.prog 93 #[.pointer (some ⟨b, 0, none⟩)] w fun e w' => e = .returned (.tuple #[]) ∧ Lib.BuilderAt 57 5 B b (.pointer (some ⟨b, 0, none⟩)) l w' ∧ Below B w w' := by
  rcases h with h | h
  · refine (check_new b w h.cell0 h.shape h.frozen0).mono ?_
    rintro e w' ⟨rfl, rfl⟩
    exact ⟨rfl, h.used _, (Below.refl B w).setCell (p := ⟨b, 0, none⟩) h.1 _⟩
  · refine (check_used b w h.cell0).mono ?_
    rintro e w' ⟨rfl, rfl⟩
    exact ⟨rfl, h, Below.refl B _⟩

set_option maxRecDepth 100000 in
set_option maxHeartbeats 2000000 in
/-- A byte more. -/
theorem wbyte_any (B b : Nat) (l : List UInt8) (c : UInt8) (w : World) (h : Lib.IsBuilder 57 5 B b (Lib.byteCells l) w) (hlen : l.length ≤ 1000) (hBw : B ≤ w.heap.size) :
    Calls Tryz.prog 64 #[.pointer (some ⟨b, 0, none⟩), .int .u8 (c.toNat : Int)] w fun e w' => e = .returned .nilIface ∧ Lib.IsBuilder 57 5 B b (Lib.byteCells (l ++ [c])) w' ∧ Below B w w' := by
  obtain ⟨i, hi, hz, h1, h2⟩ := byte_info
  have c0 := fun W h => check_any B b (Lib.byteCells l) W h
  have hbl : (Lib.byteCells l).length = l.length := by simp [Lib.byteCells]
  have hbs : Lib.byteCells (l ++ [c]) = Lib.byteCells l ++ [.int .u8 (c.toNat : Int)] := by simp [Lib.byteCells]
  rw [hbs]
  rw [← hbl] at hlen
  clear hbs hbl
  generalize Lib.byteCells l = bl at *
  go_enter Tryz.func64, Tryz.ntmps64
  go_wp2_with fail
  refine (c0 _ h).mono ?_
  rintro e w1 ⟨rfl, ⟨hB, v, hb, hown, hne⟩, hw1⟩
  have d0 : w1.cell? ⟨b, 0, none⟩ = some (.pointer (some ⟨b, 0, none⟩)) := by rw [Lib.cell_of_heap hb]; rfl
  have d1 : w1.cell? ⟨b, 1, none⟩ = some v := by rw [Lib.cell_of_heap hb]; rfl
  have hlt : b < w1.heap.size := Lib.BuilderAt.lt ⟨hB, v, hb, hown, hne⟩
  have HO : Hid (w1.ownsRow B 5 1 v bl.length bl) := hown
  have HS := hw1.size
  go_wp2_with (at_builtin; refine wpList_append_own _ rfl _ _ 55 rfl B 5 i (.int .u8 0) 1 1 Tryz.underlying55 hi hz h1 h2 rfl (by decide) _ _ _ rfl (HO.out.alloc _) ⟨w1.heap.size, 0, none⟩ 1 1 [.int .u8 (c.toNat : Int)] rfl rfl ?c1 ?c2 ?c3 ?c4 ?c5 ?_)
  case c1 =>
    intro j u hj
    match j, hj with
    | 0, hj => simp at hj; subst hj; simp [Addr.add]
  case c2 => intro u hu; simp at hu; subst hu; rfl
  case c3 => unfold maxLen; omega
  case c4 => omega
  case c5 => simp; omega
  intro v' w2 hown' hg _
  have hb2 : w2.heap[b]? = some (.cells #[.pointer (some ⟨b, 0, none⟩), v] 57 (0, 0)) := by
    rw [hg.block b (by simp; omega) (fun e => hne e.symm), Lib.alloc_old w1 _ b hlt]
    exact hb
  have d2 : w2.cell? ⟨b, 0, none⟩ = some (.pointer (some ⟨b, 0, none⟩)) := by rw [Lib.cell_of_heap hb2]; rfl
  have d3 : w2.cell? ⟨b, 1, none⟩ = some v := by rw [Lib.cell_of_heap hb2]; rfl
  have f3 : w2.frozen? ⟨b, 1, none⟩ = false := Lib.frozen_of_heap hb2 1
  obtain ⟨g, cap, rfl⟩ : ∃ g cap, v' = .slice (some ⟨g, 0, none⟩) (bl.length + 1) cap := by
    rcases hown'.2 with ⟨_, h0⟩ | ⟨g, cap, cur, hv, _⟩
    · omega
    · exact ⟨g, cap, hv⟩
  go_wp2
  go_ret
  refine ⟨rfl, .inr ?_, ?_⟩
  · exact Lib.BuilderAt.put hB hb2 (by simpa using hown') (by decide)
  · exact ((hw1.alloc (by omega) _).grown hg (by simp; omega) (fun k hk => (hown.lt k hk).1)).setCell (p := ⟨b, 1, none⟩) hB _
end Go.Proofs.YtdjniiginnlmhaaGreatDoor
