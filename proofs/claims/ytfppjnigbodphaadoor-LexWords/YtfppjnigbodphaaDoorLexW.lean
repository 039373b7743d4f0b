/-
  The document's kinds of bytes, what stands at a place, digits and numbers.
-/
import Derived.Test.YtfppjnigbodphaaDoorLexC
import Derived.Test.YtfppjnigbodphaaDoorDecI
namespace Go.Proofs.YtfppjnigbodphaaDoor
open Go.RowKit
set_option maxHeartbeats 1000000

def kindN (c : UInt8) : Int := if dgB c then 1 else if ltB c then 2 else 0
theorem qkind_any (c : UInt8) (w : World) : Calls Tryd.prog 17 #[.int .u8 (c.toNat : Int)] w fun e w' => e = .returned (.int .i64 (kindN c)) ∧ w' = w := by
  by_cases h1 : (48 : Int) ≤ c.toNat ∧ (c.toNat : Int) ≤ 57
  · have H : Hid (kindN c = 1) := by show _ = _; unfold kindN; rw [if_pos]; unfold dgB; simp; omega
    obtain ⟨g1, g2⟩ := h1
    go_enter Tryd.func17, Tryd.ntmps17
    go_wp2
    go_ret
    exact ⟨ret_int H.out.symm, rfl⟩
  have hd : dgB c = false := by unfold dgB; simp; omega
  by_cases h2 : (97 : Int) ≤ c.toNat ∧ (c.toNat : Int) ≤ 122
  · have H : Hid (kindN c = 2) := by show _ = _; unfold kindN; rw [hd, lt_yes (.inr h2)]; rfl
    obtain ⟨g1, g2⟩ := h2
    have g3 : (48 : Int) ≤ c.toNat := by omega
    have g4 : ¬ (c.toNat : Int) ≤ 57 := by omega
    clear h1 hd
    go_enter Tryd.func17, Tryd.ntmps17
    go_wp2
    go_ret
    exact ⟨ret_int H.out.symm, rfl⟩
  by_cases h3 : (65 : Int) ≤ c.toNat ∧ (c.toNat : Int) ≤ 90
  · have H : Hid (kindN c = 2) := by show _ = _; unfold kindN; rw [hd, lt_yes (.inl h3)]; rfl
    obtain ⟨g1, g2⟩ := h3
    have g3 : (48 : Int) ≤ c.toNat := by omega
    have g4 : ¬ (c.toNat : Int) ≤ 57 := by omega
    have g5 : ¬ (97 : Int) ≤ c.toNat := by omega
    clear h1 h2 hd
    go_enter Tryd.func17, Tryd.ntmps17
    go_wp2
    go_ret
    exact ⟨ret_int H.out.symm, rfl⟩
  have hl := lt_no h3 h2
  by_cases h4 : (c.toNat : Int) = 36
  · have H : Hid (kindN c = 2) := by show _ = _; unfold kindN; rw [hd, hl, h4]; rfl
    clear h1 h2 h3 hd hl
    rw [h4]
    go_enter Tryd.func17, Tryd.ntmps17
    go_wp2
    go_ret
    exact ⟨ret_int H.out.symm, rfl⟩
  · have t4 : ((c.toNat : Int) == 36) = false := by simpa using h4
    have H : Hid (kindN c = 0) := by show _ = _; unfold kindN; rw [hd, hl, t4]; rfl
    clear hd hl
    by_cases g1 : (48 : Int) ≤ c.toNat
    · have g2 : ¬ (c.toNat : Int) ≤ 57 := by omega
      by_cases g3 : (97 : Int) ≤ c.toNat
      · have g4 : ¬ (c.toNat : Int) ≤ 122 := by omega
        have g5 : (65 : Int) ≤ c.toNat := by omega
        have g6 : ¬ (c.toNat : Int) ≤ 90 := by omega
        clear h1 h2 h3
        go_enter Tryd.func17, Tryd.ntmps17
        go_wp2
        go_ret
        exact ⟨ret_int H.out.symm, rfl⟩
      · by_cases g5 : (65 : Int) ≤ c.toNat
        · have g6 : ¬ (c.toNat : Int) ≤ 90 := by omega
          clear h1 h2 h3
          go_enter Tryd.func17, Tryd.ntmps17
          go_wp2
          go_ret
          exact ⟨ret_int H.out.symm, rfl⟩
        · clear h1 h2 h3
          go_enter Tryd.func17, Tryd.ntmps17
          go_wp2
          go_ret
          exact ⟨ret_int H.out.symm, rfl⟩
    · have g3 : ¬ (97 : Int) ≤ c.toNat := by omega
      have g5 : ¬ (65 : Int) ≤ c.toNat := by omega
      clear h1 h2 h3
      go_enter Tryd.func17, Tryd.ntmps17
      go_wp2
      go_ret
      exact ⟨ret_int H.out.symm, rfl⟩

theorem pre_take (p l : List UInt8) : p.isPrefixOf l = (decide (p.length ≤ l.length) && (l.take p.length == p)) := by
  rw [Bool.eq_iff_iff, List.isPrefixOf_iff_prefix, List.prefix_iff_eq_take]
  simp
  constructor
  · intro h; exact ⟨by have := congrArg List.length h; simp at this; omega, h.symm⟩
  · intro h; exact h.2.symm
theorem qis_any (s t : ByteArray) (k : Nat) (w : World) (hk : k ≤ s.size) (hs : s.size ≤ 300) (ht : t.size ≤ 10) :
    Calls Tryd.prog 20 #[.string s, .int .i64 (k : Int), .string t] w fun e w' => e = .returned (.bool (t.data.toList.isPrefixOf (s.data.toList.drop k))) ∧ w' = w := by
  have hl := size_list s
  have hlt := size_list t
  have hp := pre_take t.data.toList (s.data.toList.drop k)
  by_cases h : k + t.size ≤ s.size
  · have hI : (k : Int) + (t.size : Int) ≤ (s.size : Int) := by omega
    have e1 : (s.extract k (k + t.size)).toList = (s.data.toList.drop k).take t.data.toList.length := by
      rw [sub_bs, ByteArray.toList_eq, hlt]; rfl
    have H : Hid (t.data.toList.isPrefixOf (s.data.toList.drop k) = ((s.extract k (k + t.size)).toList == t.toList)) := by
      show _ = _
      rw [hp, e1, ByteArray.toList_eq, decide_eq_true (by simp; omega)]; rfl
    obtain ⟨m, hm⟩ : ∃ m, k + t.size = m := ⟨_, rfl⟩
    have m0 : (k : Int) + (t.size : Int) = (m : Int) := by omega
    have m1 : k ≤ m := by omega
    have m2 : m ≤ s.size := by omega
    rw [hm] at H
    clear hp e1 hl hlt h hm hI
    have hI : (m : Int) ≤ (s.size : Int) := by omega
    rw [H.out]
    go_enter Tryd.func20, Tryd.ntmps20
    go_wp2
    go_ret
    exact ⟨rfl, rfl⟩
  · have hI : ¬ (k : Int) + (t.size : Int) ≤ (s.size : Int) := by omega
    have H : Hid (t.data.toList.isPrefixOf (s.data.toList.drop k) = false) := by
      show _ = _
      rw [hp, decide_eq_false (by simp; omega)]; rfl
    clear hp hl hlt h
    rw [H.out]
    go_enter Tryd.func20, Tryd.ntmps20
    go_wp2
    go_ret
    exact ⟨rfl, rfl⟩
theorem kind_one (c : UInt8) : (kindN c == 1) = dgB c := by
  unfold kindN; cases dgB c
  · cases ltB c <;> rfl
  · rfl
theorem qdigits_any (s : ByteArray) (k : Nat) (w : World) (hk : k ≤ s.size) (hs : s.size ≤ 300) :
    Calls Tryd.prog 29 #[.string s, .int .i64 (k : Int)] w fun e w' => e = .returned (.int .i64 ((k + run dgB (s.data.toList.drop k) : Nat) : Int)) ∧ w' = w := by
  have hl := size_list s
  have HS : Hid (s.data.toList.length = s.size) := hl
  clear hl
  go_enter Tryd.func29, Tryd.ntmps29
  go_wp2
  go_loop [1] (fun i => ∃ j : Nat, j ≤ s.size ∧ i = .int .i64 j ∧ k + run dgB (s.data.toList.drop k) = j + run dgB (s.data.toList.drop j)) (fun i => s.size - (intOf i).toNat)
  case atStart => exact ⟨k, hk, rfl, rfl⟩
  case round =>
    obtain ⟨j, hj, rfl, ha⟩ := hrel
    have HA : Hid (k + run dgB (s.data.toList.drop k) = j + run dgB (s.data.toList.drop j)) := ha
    clear ha hk
    by_cases hlt : j < s.size
    · have HT : Hid (run dgB (s.data.toList.drop j) = if dgB s[j] then run dgB (s.data.toList.drop (j + 1)) + 1 else 0) := run_at dgB s.data.toList j (by have := HS.out; omega)
      have c1 := fun W => qkind_any s[j] W
      have k1 := kind_one s[j]
      cases hp : dgB s[j]
      · rw [hp] at k1
        have HP : Hid (dgB s[j] = false) := hp
        clear hp
        go_wp2_with fail
        refine (c1 _).mono ?_
        rintro e w1 ⟨rfl, rfl⟩
        go_wp2_with fail
        go_ret
        refine ⟨ret_int ?_, rfl⟩
        rw [HA.out, HT.out, HP.out]; simp
      · rw [hp] at k1
        have HP : Hid (dgB s[j] = true) := hp
        clear hp
        go_wp2_with fail
        refine (c1 _).mono ?_
        rintro e w1 ⟨rfl, rfl⟩
        go_wp2_with fail
        go_round
        case rel => exact ⟨j + 1, by omega, by go_num, by rw [HA.out, HT.out, HP.out]; simp; omega⟩
        case measure => simp [intOf]; omega
    · have HT : Hid (run dgB (s.data.toList.drop j) = 0) := run_off dgB s.data.toList j (by have := HS.out; omega)
      go_wp2_with fail
      go_ret
      refine ⟨ret_int ?_, rfl⟩
      have h1 := HA.out
      have h2 := HT.out
      omega

/-- How the document answers a word that begins at a place. -/
def RxR (r : Except Int Wd) (k : Nat) (e : Ending) : Prop :=
  match r with
  | .ok x => e = .returned (.tuple #[.agg #[.int .i64 x.1, .int .i64 (k : Int), .string (bs x.2.1), .int .i64 x.2.2.1, .int .i64 x.2.2.2.1], .int .i64 ((k + x.2.2.2.2 : Nat) : Int), .int .i64 0])
  | .error c => e = .returned (.tuple #[.agg #[.int .i64 0, .int .i64 0, .string ⟨#[]⟩, .int .i64 0, .int .i64 0], .int .i64 (k : Int), .int .i64 c])
theorem rx_fin (x : Wd) (k : Nat) (i : Int) (hi : i = ((k + x.2.2.2.2 : Nat) : Int)) :
    RxR (.ok x) k (.returned (.tuple #[.agg #[.int .i64 x.1, .int .i64 (k : Int), .string (bs x.2.1), .int .i64 x.2.2.1, .int .i64 x.2.2.2.1], .int .i64 i, .int .i64 0])) := by subst hi; rfl

theorem qnumber_any (s : ByteArray) (k : Nat) (w : World) (hk : k ≤ s.size) (hs : s.size ≤ 300) :
    Calls Tryd.prog 18 #[.string s, .int .i64 (k : Int)] w fun e w' => RxR (numR (s.data.toList.drop k)) k e ∧ Ext w w' := by
  have hl := size_list s
  obtain ⟨l, hll⟩ : ∃ l, s.data.toList.drop k = l := ⟨_, rfl⟩
  have hlen : l.length = s.size - k := by rw [← hll]; simp [hl]
  have c1 := fun W => qdigits_any s k W hk hs
  have hr := runL_le dgB l
  rw [hll] at c1 ⊢
  have hn := numE_le l
  have hng := numE_ge l
  obtain ⟨m, hm⟩ : ∃ m, k + numE l = m := ⟨_, rfl⟩
  have m1 : k ≤ m := by omega
  have m2 : m ≤ s.size := by omega
  obtain ⟨q, hq⟩ : ∃ q, s.extract k m = q := ⟨_, rfl⟩
  have hqs : q.size ≤ 300 := by rw [← hq, ByteArray.size_extract]; omega
  have hqq : q.data.toList = l.take (numE l) := by rw [← hq, ← hm, sub_bs, hll]; rfl
  have c3 := fun W => rparse_any q W (by unfold maxLen; omega)
  rw [hqq] at c3
  have H0 : Hid (rdK (l.take (numE l)) = 0 → numR l = .error 4) := numR_0
  have H2 : Hid (rdK (l.take (numE l)) = 2 → numR l = .error 2) := numR_2
  have H1 : Hid (rdK (l.take (numE l)) = 1 → numR l = .ok (0, [], rdV (l.take (numE l)), 0, numE l)) := numR_1
  have HM : Hid (k + numE l = m) := hm
  have HK : Hid (rdK (l.take (numE l)) = 0 ∨ rdK (l.take (numE l)) = 1 ∨ rdK (l.take (numE l)) = 2) := rdK_three _
  obtain ⟨K, hK⟩ : ∃ K, rdK (l.take (numE l)) = K := ⟨_, rfl⟩
  obtain ⟨V, hV⟩ : ∃ V, rdV (l.take (numE l)) = V := ⟨_, rfl⟩
  rw [hK] at c3 H0 H1 H2 HK
  rw [hV] at c3 H1
  obtain ⟨n1, hn1⟩ : ∃ n1, run dgB l = n1 := ⟨_, rfl⟩
  obtain ⟨e1, he1⟩ : ∃ e1, k + n1 = e1 := ⟨_, rfl⟩
  rw [hn1] at c1 hr hng
  rw [he1] at c1
  have e1a : k ≤ e1 := by omega
  have e1b : e1 ≤ s.size := by omega
  have hdr : s.data.toList.drop e1 = l.drop n1 := by rw [← hll, List.drop_drop]; congr 1; omega
  have c2 := fun W => qis_any s ⟨#[46]⟩ e1 W e1b hs (by decide)
  rw [hdr] at c2
  have hdot : ((⟨#[46]⟩ : ByteArray).data.toList.isPrefixOf (l.drop n1)) = decide (l[n1]? = some 46) := by
    show List.isPrefixOf [46] (l.drop n1) = _
    rw [Bool.eq_iff_iff]
    rw [← List.head?_drop]
    cases l.drop n1 with
    | nil => simp
    | cons c r => simp [List.isPrefixOf]; exact eq_comm
  rw [hdot] at c2
  have hE : numE l = if l[n1]? = some 46 ∧ 0 < run dgB (l.drop (n1 + 1)) then n1 + 1 + run dgB (l.drop (n1 + 1)) else n1 := by unfold numE; rw [hn1]
  have wk : wrap64 ((e1 : Int) + 1) = ((e1 + 1 : Nat) : Int) := by unfold wrap64; omega
  by_cases h1 : l[n1]? = some 46
  · rw [decide_eq_true h1] at c2
    have hb : e1 + 1 ≤ s.size := by have := (List.getElem?_eq_some_iff.mp h1).1; clear hE wk hdot; omega
    have c4 := fun W => qdigits_any s (e1 + 1) W hb hs
    have hdd : s.data.toList.drop (e1 + 1) = l.drop (n1 + 1) := by rw [← hll, List.drop_drop]; congr 1; omega
    rw [hdd] at c4
    by_cases h2 : 0 < run dgB (l.drop (n1 + 1))
    · rw [if_pos ⟨h1, h2⟩] at hE
      have hme : e1 + 1 + run dgB (l.drop (n1 + 1)) = m := by omega
      rw [hme] at c4
      have g1 : (e1 : Int) + 1 < (m : Int) := by omega
      clear h1 h2 hdd hme hb
      clear hr hn hng hm hqq hK hV hn1 he1 hE hlen hl hll hk hdr hdot
      go_enter Tryd.func18, Tryd.ntmps18
      rcases HK.out with k0 | k0 | k0
      · subst k0
        have R0 : Hid (numR l = .error 4) := H0.out rfl
        clear H0 H1 H2 HK
        go_wp2_with fail
        refine (c1 _).mono ?_
        rintro e w1 ⟨rfl, rfl⟩
        go_wp2_with fail
        refine (c2 _).mono ?_
        rintro e w2 ⟨rfl, rfl⟩
        go_wp2_with fail
        refine (c4 _).mono ?_
        rintro e w2 ⟨rfl, rfl⟩
        go_wp2_with fail
        refine (c4 _).mono ?_
        rintro e w2 ⟨rfl, rfl⟩
        go_wp2_with fail
        refine (c3 _).mono ?_
        rintro e w3 ⟨rfl, E3⟩
        have B3 := blk5_top rfl E3
        have X3 := ((Ext.refl w).alloc _).trans E3
        have D3 := B3
        obtain ⟨_, ⟨b0, b1, b2, b3, b4⟩, f0, f1, f2, f3, f4⟩ := D3
        clear E3
        go_wp2_with fail
        refine fin5 _ (B3.set _ _ _ _ _) rfl (by with_reducible repeat (first | assumption | exact Ext.refl _ | apply Ext.alloc | apply Ext.drewN | (refine Ext.setCell ?_ (by simp) _))) (fun g0 g1 g2 g3 g4 => by simp [results, Tryd.results18, go_sem, g0, g1, g2, g3, g4]; rfl) (fun h => ⟨?_, h⟩)
        rw [R0.out]
        exact rfl
      · subst k0
        have R0 : Hid (numR l = .ok (0, [], V, 0, numE l)) := H1.out rfl
        clear H0 H1 H2 HK
        go_wp2_with fail
        refine (c1 _).mono ?_
        rintro e w1 ⟨rfl, rfl⟩
        go_wp2_with fail
        refine (c2 _).mono ?_
        rintro e w2 ⟨rfl, rfl⟩
        go_wp2_with fail
        refine (c4 _).mono ?_
        rintro e w2 ⟨rfl, rfl⟩
        go_wp2_with fail
        refine (c4 _).mono ?_
        rintro e w2 ⟨rfl, rfl⟩
        go_wp2_with fail
        refine (c3 _).mono ?_
        rintro e w3 ⟨rfl, E3⟩
        have B3 := blk5_top rfl E3
        have X3 := ((Ext.refl w).alloc _).trans E3
        have D3 := B3
        obtain ⟨_, ⟨b0, b1, b2, b3, b4⟩, f0, f1, f2, f3, f4⟩ := D3
        clear E3
        go_wp2_with fail
        refine fin5 _ (B3.set _ _ _ _ _) rfl (by with_reducible repeat (first | assumption | exact Ext.refl _ | apply Ext.alloc | apply Ext.drewN | (refine Ext.setCell ?_ (by simp) _))) (fun g0 g1 g2 g3 g4 => by simp [results, Tryd.results18, go_sem, g0, g1, g2, g3, g4]; rfl) (fun h => ⟨?_, h⟩)
        rw [R0.out]
        exact rx_fin (0, [], V, 0, numE l) k _ (by rw [HM.out])
      · subst k0
        have R0 : Hid (numR l = .error 2) := H2.out rfl
        clear H0 H1 H2 HK
        go_wp2_with fail
        refine (c1 _).mono ?_
        rintro e w1 ⟨rfl, rfl⟩
        go_wp2_with fail
        refine (c2 _).mono ?_
        rintro e w2 ⟨rfl, rfl⟩
        go_wp2_with fail
        refine (c4 _).mono ?_
        rintro e w2 ⟨rfl, rfl⟩
        go_wp2_with fail
        refine (c4 _).mono ?_
        rintro e w2 ⟨rfl, rfl⟩
        go_wp2_with fail
        refine (c3 _).mono ?_
        rintro e w3 ⟨rfl, E3⟩
        have B3 := blk5_top rfl E3
        have X3 := ((Ext.refl w).alloc _).trans E3
        have D3 := B3
        obtain ⟨_, ⟨b0, b1, b2, b3, b4⟩, f0, f1, f2, f3, f4⟩ := D3
        clear E3
        go_wp2_with fail
        refine fin5 _ (B3.set _ _ _ _ _) rfl (by with_reducible repeat (first | assumption | exact Ext.refl _ | apply Ext.alloc | apply Ext.drewN | (refine Ext.setCell ?_ (by simp) _))) (fun g0 g1 g2 g3 g4 => by simp [results, Tryd.results18, go_sem, g0, g1, g2, g3, g4]; rfl) (fun h => ⟨?_, h⟩)
        rw [R0.out]
        exact rfl
    · rw [if_neg (fun h => h2 h.2)] at hE
      have hme : m = e1 := by omega
      have hme2 : e1 + 1 + run dgB (l.drop (n1 + 1)) = e1 + 1 := by omega
      rw [hme2] at c4
      subst hme
      have g1 : ¬ (m : Int) + 1 < (m : Int) + 1 := by omega
      clear h1 h2 hdd hme2 hb
      clear hr hn hng hm hqq hK hV hn1 hE hlen hl hll hk hdr hdot
      go_enter Tryd.func18, Tryd.ntmps18
      rcases HK.out with k0 | k0 | k0
      · subst k0
        have R0 : Hid (numR l = .error 4) := H0.out rfl
        clear H0 H1 H2 HK
        go_wp2_with fail
        refine (c1 _).mono ?_
        rintro e w1 ⟨rfl, rfl⟩
        go_wp2_with fail
        refine (c2 _).mono ?_
        rintro e w2 ⟨rfl, rfl⟩
        go_wp2_with fail
        refine (c4 _).mono ?_
        rintro e w2 ⟨rfl, rfl⟩
        go_wp2_with fail
        refine (c3 _).mono ?_
        rintro e w3 ⟨rfl, E3⟩
        have B3 := blk5_top rfl E3
        have X3 := ((Ext.refl w).alloc _).trans E3
        have D3 := B3
        obtain ⟨_, ⟨b0, b1, b2, b3, b4⟩, f0, f1, f2, f3, f4⟩ := D3
        clear E3
        go_wp2_with fail
        refine fin5 _ (B3.set _ _ _ _ _) rfl (by with_reducible repeat (first | assumption | exact Ext.refl _ | apply Ext.alloc | apply Ext.drewN | (refine Ext.setCell ?_ (by simp) _))) (fun g0 g1 g2 g3 g4 => by simp [results, Tryd.results18, go_sem, g0, g1, g2, g3, g4]; rfl) (fun h => ⟨?_, h⟩)
        rw [R0.out]
        exact rfl
      · subst k0
        have R0 : Hid (numR l = .ok (0, [], V, 0, numE l)) := H1.out rfl
        clear H0 H1 H2 HK
        go_wp2_with fail
        refine (c1 _).mono ?_
        rintro e w1 ⟨rfl, rfl⟩
        go_wp2_with fail
        refine (c2 _).mono ?_
        rintro e w2 ⟨rfl, rfl⟩
        go_wp2_with fail
        refine (c4 _).mono ?_
        rintro e w2 ⟨rfl, rfl⟩
        go_wp2_with fail
        refine (c3 _).mono ?_
        rintro e w3 ⟨rfl, E3⟩
        have B3 := blk5_top rfl E3
        have X3 := ((Ext.refl w).alloc _).trans E3
        have D3 := B3
        obtain ⟨_, ⟨b0, b1, b2, b3, b4⟩, f0, f1, f2, f3, f4⟩ := D3
        clear E3
        go_wp2_with fail
        refine fin5 _ (B3.set _ _ _ _ _) rfl (by with_reducible repeat (first | assumption | exact Ext.refl _ | apply Ext.alloc | apply Ext.drewN | (refine Ext.setCell ?_ (by simp) _))) (fun g0 g1 g2 g3 g4 => by simp [results, Tryd.results18, go_sem, g0, g1, g2, g3, g4]; rfl) (fun h => ⟨?_, h⟩)
        rw [R0.out]
        exact rx_fin (0, [], V, 0, numE l) k _ (by rw [HM.out])
      · subst k0
        have R0 : Hid (numR l = .error 2) := H2.out rfl
        clear H0 H1 H2 HK
        go_wp2_with fail
        refine (c1 _).mono ?_
        rintro e w1 ⟨rfl, rfl⟩
        go_wp2_with fail
        refine (c2 _).mono ?_
        rintro e w2 ⟨rfl, rfl⟩
        go_wp2_with fail
        refine (c4 _).mono ?_
        rintro e w2 ⟨rfl, rfl⟩
        go_wp2_with fail
        refine (c3 _).mono ?_
        rintro e w3 ⟨rfl, E3⟩
        have B3 := blk5_top rfl E3
        have X3 := ((Ext.refl w).alloc _).trans E3
        have D3 := B3
        obtain ⟨_, ⟨b0, b1, b2, b3, b4⟩, f0, f1, f2, f3, f4⟩ := D3
        clear E3
        go_wp2_with fail
        refine fin5 _ (B3.set _ _ _ _ _) rfl (by with_reducible repeat (first | assumption | exact Ext.refl _ | apply Ext.alloc | apply Ext.drewN | (refine Ext.setCell ?_ (by simp) _))) (fun g0 g1 g2 g3 g4 => by simp [results, Tryd.results18, go_sem, g0, g1, g2, g3, g4]; rfl) (fun h => ⟨?_, h⟩)
        rw [R0.out]
        exact rfl
  · rw [decide_eq_false h1] at c2
    rw [if_neg (fun h => h1 h.1)] at hE
    have hme : m = e1 := by omega
    subst hme
    clear h1
    clear hr hn hng hm hqq hK hV hn1 hE hlen hl hll hk hdr hdot
    go_enter Tryd.func18, Tryd.ntmps18
    rcases HK.out with k0 | k0 | k0
    · subst k0
      have R0 : Hid (numR l = .error 4) := H0.out rfl
      clear H0 H1 H2 HK
      go_wp2_with fail
      refine (c1 _).mono ?_
      rintro e w1 ⟨rfl, rfl⟩
      go_wp2_with fail
      refine (c2 _).mono ?_
      rintro e w2 ⟨rfl, rfl⟩
      go_wp2_with fail
      refine (c3 _).mono ?_
      rintro e w3 ⟨rfl, E3⟩
      have B3 := blk5_top rfl E3
      have X3 := ((Ext.refl w).alloc _).trans E3
      have D3 := B3
      obtain ⟨_, ⟨b0, b1, b2, b3, b4⟩, f0, f1, f2, f3, f4⟩ := D3
      clear E3
      go_wp2_with fail
      refine fin5 _ (B3.set _ _ _ _ _) rfl (by with_reducible repeat (first | assumption | exact Ext.refl _ | apply Ext.alloc | apply Ext.drewN | (refine Ext.setCell ?_ (by simp) _))) (fun g0 g1 g2 g3 g4 => by simp [results, Tryd.results18, go_sem, g0, g1, g2, g3, g4]; rfl) (fun h => ⟨?_, h⟩)
      rw [R0.out]
      exact rfl
    · subst k0
      have R0 : Hid (numR l = .ok (0, [], V, 0, numE l)) := H1.out rfl
      clear H0 H1 H2 HK
      go_wp2_with fail
      refine (c1 _).mono ?_
      rintro e w1 ⟨rfl, rfl⟩
      go_wp2_with fail
      refine (c2 _).mono ?_
      rintro e w2 ⟨rfl, rfl⟩
      go_wp2_with fail
      refine (c3 _).mono ?_
      rintro e w3 ⟨rfl, E3⟩
      have B3 := blk5_top rfl E3
      have X3 := ((Ext.refl w).alloc _).trans E3
      have D3 := B3
      obtain ⟨_, ⟨b0, b1, b2, b3, b4⟩, f0, f1, f2, f3, f4⟩ := D3
      clear E3
      go_wp2_with fail
      refine fin5 _ (B3.set _ _ _ _ _) rfl (by with_reducible repeat (first | assumption | exact Ext.refl _ | apply Ext.alloc | apply Ext.drewN | (refine Ext.setCell ?_ (by simp) _))) (fun g0 g1 g2 g3 g4 => by simp [results, Tryd.results18, go_sem, g0, g1, g2, g3, g4]; rfl) (fun h => ⟨?_, h⟩)
      rw [R0.out]
      exact rx_fin (0, [], V, 0, numE l) k _ (by rw [HM.out])
    · subst k0
      have R0 : Hid (numR l = .error 2) := H2.out rfl
      clear H0 H1 H2 HK
      go_wp2_with fail
      refine (c1 _).mono ?_
      rintro e w1 ⟨rfl, rfl⟩
      go_wp2_with fail
      refine (c2 _).mono ?_
      rintro e w2 ⟨rfl, rfl⟩
      go_wp2_with fail
      refine (c3 _).mono ?_
      rintro e w3 ⟨rfl, E3⟩
      have B3 := blk5_top rfl E3
      have X3 := ((Ext.refl w).alloc _).trans E3
      have D3 := B3
      obtain ⟨_, ⟨b0, b1, b2, b3, b4⟩, f0, f1, f2, f3, f4⟩ := D3
      clear E3
      go_wp2_with fail
      refine fin5 _ (B3.set _ _ _ _ _) rfl (by with_reducible repeat (first | assumption | exact Ext.refl _ | apply Ext.alloc | apply Ext.drewN | (refine Ext.setCell ?_ (by simp) _))) (fun g0 g1 g2 g3 g4 => by simp [results, Tryd.results18, go_sem, g0, g1, g2, g3, g4]; rfl) (fun h => ⟨?_, h⟩)
      rw [R0.out]
      exact rfl
end Go.Proofs.YtfppjnigbodphaaDoor
