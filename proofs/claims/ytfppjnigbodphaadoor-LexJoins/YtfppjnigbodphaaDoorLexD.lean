/-
  The contract of package lex's next: the word that begins at a place, or a panic that tells why there is none.
-/
import Derived.Test.YtfppjnigbodphaaDoorLexC
import Derived.Test.YtfppjnigbodphaaDoorLexU
namespace Go.Proofs.YtfppjnigbodphaaDoor
open Go.RowKit
set_option maxHeartbeats 1000000

theorem next_any (s : ByteArray) (k : Nat) (w : World) (hk : k < s.size) (hs : s.size ≤ 300) (hT : Tab7 w) :
    Calls Tryd.prog 16 #[.string s, .int .i64 (k : Int)] w fun e w' => NxR (nxt (s.data.toList.drop k)) k e ∧ Ext w w' := by
  have hl := size_list s
  obtain ⟨l, hll⟩ : ∃ l, s.data.toList.drop k = l := ⟨_, rfl⟩
  have hc : l = s[k] :: s.data.toList.drop (k + 1) := by rw [← hll, List.drop_eq_getElem_cons (by rw [hl]; exact hk)]; rfl
  have hn : nxt l = if dgB s[k] then numR l else if s[k] = 34 then txtR l else if ltB s[k] then wdR l else if s[k] = 35 then errR l else sgR l := by
    rw [hc]; exact nxt_cons _ _
  have d1 := fun W => isDigit_any s[k] W
  have d2 := fun W => begins_any s[k] W
  have b1 := byte_ne (c := s[k]) 34 (by omega)
  have b2 := byte_ne (c := s[k]) 35 (by omega)
  have HT : Hid (Tab7 w) := hT
  have c1 := fun W => number_any s k W (Nat.le_of_lt hk) hs
  have c2 := fun W => text_any s k W hk hs
  have c3 := fun W => lword_any s k W (Nat.le_of_lt hk) hs
  have c4 := fun W h => failure_any s k W (Nat.le_of_lt hk) hs h
  have c5 := fun W h => sign_any s k W (Nat.le_of_lt hk) hs h
  rw [hll] at c1 c2 c3 c4 c5 ⊢
  clear hl hll hc hT
  cases h1 : dgB s[k]
  case true =>
    rw [h1] at d1 hn
    simp only [if_true] at hn
    clear h1 b1 b2 d2
    have HN : Hid (nxt l = numR l) := hn
    clear hn
    cases hr : numR l with
    | ok x =>
      have HR : Hid (numR l = .ok x) := hr
      obtain ⟨x0, x1, x2, x3, x4⟩ := x
      have C : ∀ W, Calls Tryd.prog 23 #[.string s, .int .i64 (k : Int)] W fun e w' => e = .returned (.tuple #[.agg #[.int .i64 x0, .int .i64 0, .string (bs x1), .int .i64 x2, .int .i64 x3], .int .i64 ((k + x4 : Nat) : Int)]) ∧ Ext W w' := by rw [hr] at c1; exact c1
      clear hr c1 c2 c3 c4 c5
      obtain ⟨q1, hq1⟩ : ∃ q1, bs x1 = q1 := ⟨_, rfl⟩
      obtain ⟨m, hm⟩ : ∃ m, k + x4 = m := ⟨_, rfl⟩
      rw [hq1, hm] at C
      have HQ : Hid (bs x1 = q1 ∧ k + x4 = m) := ⟨hq1, hm⟩
      clear hq1 hm
      go_enter Tryd.func16, Tryd.ntmps16
      go_wp2_with fail
      refine (d1 _).mono ?_
      rintro e w1 ⟨rfl, rfl⟩
      go_wp2_with fail
      refine (C _).mono ?_
      rintro e w3 ⟨rfl, E3⟩
      have B3 := blk5_top rfl E3
      have X3 := ((Ext.refl w).alloc _).trans E3
      have D3 := B3
      obtain ⟨_, ⟨b0, b1, b2, b3, b4⟩, f0, f1, f2, f3, f4⟩ := D3
      clear E3
      go_wp2_with fail
      refine fin5 _ (B3.set _ _ _ _ _) rfl (by with_reducible repeat (first | assumption | exact Ext.refl _ | apply Ext.alloc | apply Ext.drewN | (refine Ext.setCell ?_ (by simp) _))) (fun g0 g1 g2 g3 g4 => by simp [results, Tryd.results16, go_sem, g0, g1, g2, g3, g4]; rfl) (fun h => ⟨?_, h⟩)
      rw [HN.out, HR.out, ← HQ.out.1]
      exact nx_fin (x0, x1, x2, x3, x4) k _ (by rw [← HQ.out.2])
    | error c =>
      have HR : Hid (numR l = .error c) := hr
      have C : ∀ W, Calls Tryd.prog 23 #[.string s, .int .i64 (k : Int)] W fun e w' => e = .panicked [{ v := .iface 34 (.agg #[.int .i64 (k : Int), .int .i64 c]), recovered := false }] ∧ Ext W w' := by rw [hr] at c1; exact c1
      clear hr c1 c2 c3 c4 c5
      go_enter Tryd.func16, Tryd.ntmps16
      go_wp2_with fail
      refine (d1 _).mono ?_
      rintro e w1 ⟨rfl, rfl⟩
      go_wp2_with fail
      refine (C _).mono ?_
      rintro e w3 ⟨rfl, E3⟩
      have X3 := ((Ext.refl w).alloc _).trans E3
      clear E3
      exact ⟨rfl, by rw [HN.out, HR.out]; rfl, X3⟩
  rw [h1] at d1 hn
  simp only [Bool.false_eq_true, if_false] at hn
  by_cases h2 : s[k] = 34
  · rw [if_pos h2] at hn
    have t1 : (((s[k]).toNat : Int) == 34) = true := by rw [show (34 : Int) = ((34 : Nat) : Int) from rfl, b1, h2]; rfl
    clear h1 h2 b1 b2 d2
    have HN : Hid (nxt l = txtR l) := hn
    clear hn
    cases hr : txtR l with
    | ok x =>
      have HR : Hid (txtR l = .ok x) := hr
      obtain ⟨x0, x1, x2, x3, x4⟩ := x
      have C : ∀ W, Calls Tryd.prog 24 #[.string s, .int .i64 (k : Int)] W fun e w' => e = .returned (.tuple #[.agg #[.int .i64 x0, .int .i64 0, .string (bs x1), .int .i64 x2, .int .i64 x3], .int .i64 ((k + x4 : Nat) : Int)]) ∧ Ext W w' := by rw [hr] at c2; exact c2
      clear hr c1 c2 c3 c4 c5
      obtain ⟨q1, hq1⟩ : ∃ q1, bs x1 = q1 := ⟨_, rfl⟩
      obtain ⟨m, hm⟩ : ∃ m, k + x4 = m := ⟨_, rfl⟩
      rw [hq1, hm] at C
      have HQ : Hid (bs x1 = q1 ∧ k + x4 = m) := ⟨hq1, hm⟩
      clear hq1 hm
      go_enter Tryd.func16, Tryd.ntmps16
      go_wp2_with fail
      refine (d1 _).mono ?_
      rintro e w1 ⟨rfl, rfl⟩
      go_wp2_with fail
      refine (C _).mono ?_
      rintro e w3 ⟨rfl, E3⟩
      have B3 := blk5_top rfl E3
      have X3 := ((Ext.refl w).alloc _).trans E3
      have D3 := B3
      obtain ⟨_, ⟨b0, b1, b2, b3, b4⟩, f0, f1, f2, f3, f4⟩ := D3
      clear E3
      go_wp2_with fail
      refine fin5 _ (B3.set _ _ _ _ _) rfl (by with_reducible repeat (first | assumption | exact Ext.refl _ | apply Ext.alloc | apply Ext.drewN | (refine Ext.setCell ?_ (by simp) _))) (fun g0 g1 g2 g3 g4 => by simp [results, Tryd.results16, go_sem, g0, g1, g2, g3, g4]; rfl) (fun h => ⟨?_, h⟩)
      rw [HN.out, HR.out, ← HQ.out.1]
      exact nx_fin (x0, x1, x2, x3, x4) k _ (by rw [← HQ.out.2])
    | error c =>
      have HR : Hid (txtR l = .error c) := hr
      have C : ∀ W, Calls Tryd.prog 24 #[.string s, .int .i64 (k : Int)] W fun e w' => e = .panicked [{ v := .iface 34 (.agg #[.int .i64 (k : Int), .int .i64 c]), recovered := false }] ∧ Ext W w' := by rw [hr] at c2; exact c2
      clear hr c1 c2 c3 c4 c5
      go_enter Tryd.func16, Tryd.ntmps16
      go_wp2_with fail
      refine (d1 _).mono ?_
      rintro e w1 ⟨rfl, rfl⟩
      go_wp2_with fail
      refine (C _).mono ?_
      rintro e w3 ⟨rfl, E3⟩
      have X3 := ((Ext.refl w).alloc _).trans E3
      clear E3
      exact ⟨rfl, by rw [HN.out, HR.out]; rfl, X3⟩
  rw [if_neg h2] at hn
  have t1 : (((s[k]).toNat : Int) == 34) = false := by rw [show (34 : Int) = ((34 : Nat) : Int) from rfl, b1]; simpa using h2
  cases h3 : ltB s[k]
  case true =>
    rw [h3] at d2 hn
    simp only [if_true] at hn
    clear h1 h2 h3 b1 b2
    have HN : Hid (nxt l = wdR l) := hn
    clear hn
    cases hr : wdR l with
    | ok x =>
      have HR : Hid (wdR l = .ok x) := hr
      obtain ⟨x0, x1, x2, x3, x4⟩ := x
      have C : ∀ W, Calls Tryd.prog 26 #[.string s, .int .i64 (k : Int)] W fun e w' => e = .returned (.tuple #[.agg #[.int .i64 x0, .int .i64 0, .string (bs x1), .int .i64 x2, .int .i64 x3], .int .i64 ((k + x4 : Nat) : Int)]) ∧ Ext W w' := by rw [hr] at c3; exact c3
      clear hr c1 c2 c3 c4 c5
      obtain ⟨q1, hq1⟩ : ∃ q1, bs x1 = q1 := ⟨_, rfl⟩
      obtain ⟨m, hm⟩ : ∃ m, k + x4 = m := ⟨_, rfl⟩
      rw [hq1, hm] at C
      have HQ : Hid (bs x1 = q1 ∧ k + x4 = m) := ⟨hq1, hm⟩
      clear hq1 hm
      go_enter Tryd.func16, Tryd.ntmps16
      go_wp2_with fail
      refine (d1 _).mono ?_
      rintro e w1 ⟨rfl, rfl⟩
      go_wp2_with fail
      refine (d2 _).mono ?_
      rintro e w1 ⟨rfl, rfl⟩
      go_wp2_with fail
      refine (C _).mono ?_
      rintro e w3 ⟨rfl, E3⟩
      have B3 := blk5_top rfl E3
      have X3 := ((Ext.refl w).alloc _).trans E3
      have D3 := B3
      obtain ⟨_, ⟨b0, b1, b2, b3, b4⟩, f0, f1, f2, f3, f4⟩ := D3
      clear E3
      go_wp2_with fail
      refine fin5 _ (B3.set _ _ _ _ _) rfl (by with_reducible repeat (first | assumption | exact Ext.refl _ | apply Ext.alloc | apply Ext.drewN | (refine Ext.setCell ?_ (by simp) _))) (fun g0 g1 g2 g3 g4 => by simp [results, Tryd.results16, go_sem, g0, g1, g2, g3, g4]; rfl) (fun h => ⟨?_, h⟩)
      rw [HN.out, HR.out, ← HQ.out.1]
      exact nx_fin (x0, x1, x2, x3, x4) k _ (by rw [← HQ.out.2])
    | error c =>
      have HR : Hid (wdR l = .error c) := hr
      have C : ∀ W, Calls Tryd.prog 26 #[.string s, .int .i64 (k : Int)] W fun e w' => e = .panicked [{ v := .iface 34 (.agg #[.int .i64 (k : Int), .int .i64 c]), recovered := false }] ∧ Ext W w' := by rw [hr] at c3; exact c3
      clear hr c1 c2 c3 c4 c5
      go_enter Tryd.func16, Tryd.ntmps16
      go_wp2_with fail
      refine (d1 _).mono ?_
      rintro e w1 ⟨rfl, rfl⟩
      go_wp2_with fail
      refine (d2 _).mono ?_
      rintro e w1 ⟨rfl, rfl⟩
      go_wp2_with fail
      refine (C _).mono ?_
      rintro e w3 ⟨rfl, E3⟩
      have X3 := ((Ext.refl w).alloc _).trans E3
      clear E3
      exact ⟨rfl, by rw [HN.out, HR.out]; rfl, X3⟩
  rw [h3] at d2 hn
  simp only [Bool.false_eq_true, if_false] at hn
  by_cases h4 : s[k] = 35
  · rw [if_pos h4] at hn
    have t2 : (((s[k]).toNat : Int) == 35) = true := by rw [show (35 : Int) = ((35 : Nat) : Int) from rfl, b2, h4]; rfl
    clear h1 h2 h3 h4 b1 b2
    have HN : Hid (nxt l = errR l) := hn
    clear hn
    cases hr : errR l with
    | ok x =>
      have HR : Hid (errR l = .ok x) := hr
      obtain ⟨x0, x1, x2, x3, x4⟩ := x
      have C : ∀ W, Nm W → Calls Tryd.prog 27 #[.string s, .int .i64 (k : Int)] W fun e w' => e = .returned (.tuple #[.agg #[.int .i64 x0, .int .i64 0, .string (bs x1), .int .i64 x2, .int .i64 x3], .int .i64 ((k + x4 : Nat) : Int)]) ∧ Ext W w' := by rw [hr] at c4; exact c4
      clear hr c1 c2 c3 c4 c5
      obtain ⟨q1, hq1⟩ : ∃ q1, bs x1 = q1 := ⟨_, rfl⟩
      obtain ⟨m, hm⟩ : ∃ m, k + x4 = m := ⟨_, rfl⟩
      rw [hq1, hm] at C
      have HQ : Hid (bs x1 = q1 ∧ k + x4 = m) := ⟨hq1, hm⟩
      clear hq1 hm
      go_enter Tryd.func16, Tryd.ntmps16
      go_wp2_with fail
      refine (d1 _).mono ?_
      rintro e w1 ⟨rfl, rfl⟩
      go_wp2_with fail
      refine (d2 _).mono ?_
      rintro e w1 ⟨rfl, rfl⟩
      go_wp2_with fail
      refine (C _ (HT.out.1.ext ((Ext.refl _).alloc _))).mono ?_
      rintro e w3 ⟨rfl, E3⟩
      have B3 := blk5_top rfl E3
      have X3 := ((Ext.refl w).alloc _).trans E3
      have D3 := B3
      obtain ⟨_, ⟨b0, b1, b2, b3, b4⟩, f0, f1, f2, f3, f4⟩ := D3
      clear E3
      go_wp2_with fail
      refine fin5 _ (B3.set _ _ _ _ _) rfl (by with_reducible repeat (first | assumption | exact Ext.refl _ | apply Ext.alloc | apply Ext.drewN | (refine Ext.setCell ?_ (by simp) _))) (fun g0 g1 g2 g3 g4 => by simp [results, Tryd.results16, go_sem, g0, g1, g2, g3, g4]; rfl) (fun h => ⟨?_, h⟩)
      rw [HN.out, HR.out, ← HQ.out.1]
      exact nx_fin (x0, x1, x2, x3, x4) k _ (by rw [← HQ.out.2])
    | error c =>
      have HR : Hid (errR l = .error c) := hr
      have C : ∀ W, Nm W → Calls Tryd.prog 27 #[.string s, .int .i64 (k : Int)] W fun e w' => e = .panicked [{ v := .iface 34 (.agg #[.int .i64 (k : Int), .int .i64 c]), recovered := false }] ∧ Ext W w' := by rw [hr] at c4; exact c4
      clear hr c1 c2 c3 c4 c5
      go_enter Tryd.func16, Tryd.ntmps16
      go_wp2_with fail
      refine (d1 _).mono ?_
      rintro e w1 ⟨rfl, rfl⟩
      go_wp2_with fail
      refine (d2 _).mono ?_
      rintro e w1 ⟨rfl, rfl⟩
      go_wp2_with fail
      refine (C _ (HT.out.1.ext ((Ext.refl _).alloc _))).mono ?_
      rintro e w3 ⟨rfl, E3⟩
      have X3 := ((Ext.refl w).alloc _).trans E3
      clear E3
      exact ⟨rfl, by rw [HN.out, HR.out]; rfl, X3⟩
  rw [if_neg h4] at hn
  have t2 : (((s[k]).toNat : Int) == 35) = false := by rw [show (35 : Int) = ((35 : Nat) : Int) from rfl, b2]; simpa using h4
  clear h1 h2 h3 h4 b1 b2
  have HN : Hid (nxt l = sgR l) := hn
  clear hn
  cases hr : sgR l with
  | ok x =>
    have HR : Hid (sgR l = .ok x) := hr
    obtain ⟨x0, x1, x2, x3, x4⟩ := x
    have C : ∀ W, Sg W → Calls Tryd.prog 28 #[.string s, .int .i64 (k : Int)] W fun e w' => e = .returned (.tuple #[.agg #[.int .i64 x0, .int .i64 0, .string (bs x1), .int .i64 x2, .int .i64 x3], .int .i64 ((k + x4 : Nat) : Int)]) ∧ Ext W w' := by rw [hr] at c5; exact c5
    clear hr c1 c2 c3 c4 c5
    obtain ⟨q1, hq1⟩ : ∃ q1, bs x1 = q1 := ⟨_, rfl⟩
    obtain ⟨m, hm⟩ : ∃ m, k + x4 = m := ⟨_, rfl⟩
    rw [hq1, hm] at C
    have HQ : Hid (bs x1 = q1 ∧ k + x4 = m) := ⟨hq1, hm⟩
    clear hq1 hm
    go_enter Tryd.func16, Tryd.ntmps16
    go_wp2_with fail
    refine (d1 _).mono ?_
    rintro e w1 ⟨rfl, rfl⟩
    go_wp2_with fail
    refine (d2 _).mono ?_
    rintro e w1 ⟨rfl, rfl⟩
    go_wp2_with fail
    refine (C _ (HT.out.2.ext ((Ext.refl _).alloc _))).mono ?_
    rintro e w3 ⟨rfl, E3⟩
    have B3 := blk5_top rfl E3
    have X3 := ((Ext.refl w).alloc _).trans E3
    have D3 := B3
    obtain ⟨_, ⟨b0, b1, b2, b3, b4⟩, f0, f1, f2, f3, f4⟩ := D3
    clear E3
    go_wp2_with fail
    refine fin5 _ (B3.set _ _ _ _ _) rfl (by with_reducible repeat (first | assumption | exact Ext.refl _ | apply Ext.alloc | apply Ext.drewN | (refine Ext.setCell ?_ (by simp) _))) (fun g0 g1 g2 g3 g4 => by simp [results, Tryd.results16, go_sem, g0, g1, g2, g3, g4]; rfl) (fun h => ⟨?_, h⟩)
    rw [HN.out, HR.out, ← HQ.out.1]
    exact nx_fin (x0, x1, x2, x3, x4) k _ (by rw [← HQ.out.2])
  | error c =>
    have HR : Hid (sgR l = .error c) := hr
    have C : ∀ W, Sg W → Calls Tryd.prog 28 #[.string s, .int .i64 (k : Int)] W fun e w' => e = .panicked [{ v := .iface 34 (.agg #[.int .i64 (k : Int), .int .i64 c]), recovered := false }] ∧ Ext W w' := by rw [hr] at c5; exact c5
    clear hr c1 c2 c3 c4 c5
    go_enter Tryd.func16, Tryd.ntmps16
    go_wp2_with fail
    refine (d1 _).mono ?_
    rintro e w1 ⟨rfl, rfl⟩
    go_wp2_with fail
    refine (d2 _).mono ?_
    rintro e w1 ⟨rfl, rfl⟩
    go_wp2_with fail
    refine (C _ (HT.out.2.ext ((Ext.refl _).alloc _))).mono ?_
    rintro e w3 ⟨rfl, E3⟩
    have X3 := ((Ext.refl w).alloc _).trans E3
    clear E3
    exact ⟨rfl, by rw [HN.out, HR.out]; rfl, X3⟩
end Go.Proofs.YtfppjnigbodphaaDoor
