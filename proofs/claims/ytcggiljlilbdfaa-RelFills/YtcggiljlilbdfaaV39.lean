/-
 What the laws of layer 10 ask of formulas that are filled: plain mathematics, no program in sight.
 The document's kinds of bytes, what stands at a place, digits and numbers.
 The document's texts: bytes that are gathered in a slice.
 The document's word: what begins at a place.
-/
import Derived.Test.YtcggiljlilbdfaaV22
import Derived.Test.YtcggiljlilbdfaaV38
import Derived.Test.YtcggiljlilbdfaaV19
import Derived.Test.YtcggiljlilbdfaaV7
import Derived.Test.YtcggiljlilbdfaaV18
import Derived.Test.YtcggiljlilbdfaaV11
import Derived.Laws.IdiomStrings
import Derived.BigQuiet
namespace Go.Proofs.Ytcggiljlilbdfaa
open Go.RowKit
set_option maxHeartbeats 2000000

theorem hr_mpg (n : Nat) : ∀ t : T, Hr n t → ∀ g : T → T, (∀ t, (g t).l = t.l ∨ (g t).l = []) → Hr n (mpT g n t) := by
 induction n with
 | zero => intro t h; cases h
 | succ n ih =>
   intro t h g hg
   rw [mpT]
   rcases hg (t.wL (t.l.map (if prB t.k then mpT g n else id))) with h1 | h1
   · refine ⟨?_, ?_⟩
     · rw [h1]; show (t.l.map _).length ≤ _; rw [List.length_map]; exact h.1
     · intro x hx
       rw [h1] at hx
       have hx2 : x ∈ t.l.map (if prB t.k then mpT g n else id) := hx
       obtain ⟨y, hy, rfl⟩ := List.mem_map.1 hx2
       cases prB t.k with
       | true => exact ih y (h.2 y hy) g hg
       | false => exact h.2 y hy
   · exact ⟨by rw [h1]; exact Nat.zero_le _, by rw [h1]; intro x hx; cases hx⟩
theorem fiE_l (a b : Int) (t : T) : (fiE a b t).l = t.l ∨ (fiE a b t).l = [] := by
 unfold fiE
 split
 · exact .inr rfl
 · exact .inl (mvE_l a b t)
theorem hr_fill (a b : Int) (n : Nat) (t : T) (h : Hr n t) : Hr n (mpT (fiE a b) n t) := hr_mpg n t h _ (fiE_l a b)
theorem hr_filled (a b : Int) (n : Nat) (t : T) (h : Hr n t) : Hr n (if wellT n t then mpT (fiE a b) n t else tz) := by
 split
 · exact hr_fill a b n t h
 · cases n with
   | zero => cases h
   | succ n => exact ⟨by decide, fun x hx => by cases hx⟩
theorem sz_mpg (n : Nat) : ∀ t : T, ∀ g : T → T, (∀ t, (g t).l = t.l ∨ (g t).l = []) → szT n (mpT g n t) ≤ szT n t := by
 induction n with
 | zero => intro t g _; exact Nat.le_refl _
 | succ n ih =>
   intro t g hg
   rw [mpT, szT, szT]
   rcases hg (t.wL (t.l.map (if prB t.k then mpT g n else id))) with h1 | h1
   · rw [h1]
     show 1 + ((t.l.map (if prB t.k then mpT g n else id)).map (szT n)).sum ≤ _
     rw [List.map_map]
     have := sum_le_map (szT n ∘ (if prB t.k then mpT g n else id)) (szT n) t.l (fun x _ => by
       cases prB t.k with
       | true => exact ih x g hg
       | false => exact Nat.le_refl _)
     omega
   · rw [h1]; simp
theorem sz_filled (a b : Int) (n : Nat) (t : T) : szT n (if wellT n t then mpT (fiE a b) n t else tz) ≤ max (szT n t) 1 := by
 split
 · exact Nat.le_trans (sz_mpg n t _ (fiE_l a b)) (Nat.le_max_left _ _)
 · cases n with
   | zero => exact Nat.le_max_right _ _
   | succ n => exact Nat.le_max_right _ _
theorem fill_alike (a b c d : Int) (n : Nat) (t : T) (he : erT n (mpT (fiE a b) n t) = erT n t) :
   mpT (mvE (wrap64 (-(wrap64 (c + a)))) (wrap64 (-(wrap64 (d + b))))) n (mpT (fiE a b) n t) = mpT (mvE (wrap64 (-c)) (wrap64 (-d))) n t := by
 rw [(er_fill a b n t).2 he, mpT_add, mvE_mod _ _ (wrap64 (-c)) (wrap64 (-d)) (by unfold wrap64; omega) (by unfold wrap64; omega)]

open Go.RowKit
set_option maxHeartbeats 1000000

def kindN (c : UInt8) : Int := if dgB c then 1 else if ltB c then 2 else 0
theorem qkind_any (c : UInt8) (w : World) : Calls Try.prog 107 #[.int .u8 (c.toNat : Int)] w fun e w' => e = .returned (.int .i64 (kindN c)) ∧ w' = w := by
 by_cases h1 : (48 : Int) ≤ c.toNat ∧ (c.toNat : Int) ≤ 57
 · have H : Hid (kindN c = 1) := by show _ = _; unfold kindN; rw [if_pos]; unfold dgB; simp; omega
   obtain ⟨g1, g2⟩ := h1
   go_enter Try.func107, Try.ntmps107
   go_wp2
   go_ret
   exact ⟨ret_int H.out.symm, rfl⟩
 have hd : dgB c = false := by unfold dgB; simp; omega
 by_cases h2 : (97 : Int) ≤ c.toNat ∧ (c.toNat : Int) ≤ 122
 · have H : Hid (kindN c = 2) := by show _ = _; unfold kindN; rw [hd, lt_yes (.inr h2)]; rfl
   obtain ⟨g1, g2⟩ := h2
   have g3 : (48 : Int) ≤ c.toNat := by omega
   have g4 : ¬ (c.toNat : Int) ≤ 57 := by omega
   clear h1 hd
   go_enter Try.func107, Try.ntmps107
   go_wp2
   go_ret
   exact ⟨ret_int H.out.symm, rfl⟩
 by_cases h3 : (65 : Int) ≤ c.toNat ∧ (c.toNat : Int) ≤ 90
 · have H : Hid (kindN c = 2) := by show _ = _; unfold kindN; rw [hd, lt_yes (.inl h3)]; rfl
   obtain ⟨g1, g2⟩ := h3
   have g3 : (48 : Int) ≤ c.toNat := by omega
   have g4 : ¬ (c.toNat : Int) ≤ 57 := by omega
   have g5 : ¬ (97 : Int) ≤ c.toNat := by omega
   clear h1 h2 hd
   go_enter Try.func107, Try.ntmps107
   go_wp2
   go_ret
   exact ⟨ret_int H.out.symm, rfl⟩
 have hl := lt_no h3 h2
 by_cases h4 : (c.toNat : Int) = 36
 · have H : Hid (kindN c = 2) := by show _ = _; unfold kindN; rw [hd, hl, h4]; rfl
   clear h1 h2 h3 hd hl
   rw [h4]
   go_enter Try.func107, Try.ntmps107
   go_wp2
   go_ret
   exact ⟨ret_int H.out.symm, rfl⟩
 · have t4 : ((c.toNat : Int) == 36) = false := by simpa using h4
   have H : Hid (kindN c = 0) := by show _ = _; unfold kindN; rw [hd, hl, t4]; rfl
   clear hd hl
   by_cases g1 : (48 : Int) ≤ c.toNat
   · have g2 : ¬ (c.toNat : Int) ≤ 57 := by omega
     by_cases g3 : (97 : Int) ≤ c.toNat
     · have g4 : ¬ (c.toNat : Int) ≤ 122 := by omega
       have g5 : (65 : Int) ≤ c.toNat := by omega
       have g6 : ¬ (c.toNat : Int) ≤ 90 := by omega
       clear h1 h2 h3
       go_enter Try.func107, Try.ntmps107
       go_wp2
       go_ret
       exact ⟨ret_int H.out.symm, rfl⟩
     · by_cases g5 : (65 : Int) ≤ c.toNat
       · have g6 : ¬ (c.toNat : Int) ≤ 90 := by omega
         clear h1 h2 h3
         go_enter Try.func107, Try.ntmps107
         go_wp2
         go_ret
         exact ⟨ret_int H.out.symm, rfl⟩
       · clear h1 h2 h3
         go_enter Try.func107, Try.ntmps107
         go_wp2
         go_ret
         exact ⟨ret_int H.out.symm, rfl⟩
   · have g3 : ¬ (97 : Int) ≤ c.toNat := by omega
     have g5 : ¬ (65 : Int) ≤ c.toNat := by omega
     clear h1 h2 h3
     go_enter Try.func107, Try.ntmps107
     go_wp2
     go_ret
     exact ⟨ret_int H.out.symm, rfl⟩

theorem pre_takew (p l : List UInt8) : p.isPrefixOf l = (decide (p.length ≤ l.length) && (l.take p.length == p)) := by
 rw [Bool.eq_iff_iff, List.isPrefixOf_iff_prefix, List.prefix_iff_eq_take]
 simp
 constructor
 · intro h; exact ⟨by have := congrArg List.length h; simp at this; omega, h.symm⟩
 · intro h; exact h.2.symm
theorem qis_any (s t : ByteArray) (k : Nat) (w : World) (hk : k ≤ s.size) (hs : s.size ≤ 300) (ht : t.size ≤ 10) :
   Calls Try.prog 110 #[.string s, .int .i64 (k : Int), .string t] w fun e w' => e = .returned (.bool (t.data.toList.isPrefixOf (s.data.toList.drop k))) ∧ w' = w := by
 have hl := size_list s
 have hlt := size_list t
 have hp := pre_takew t.data.toList (s.data.toList.drop k)
 by_cases h : k + t.size ≤ s.size
 · have hI : (k : Int) + (t.size : Int) ≤ (s.size : Int) := by omega
   have e1 : (s.extract k (k + t.size)).toList = (s.data.toList.drop k).take t.data.toList.length := by
     rw [sub_bs, ByteArray.toList_eq, hlt]; rfl
   have H : Hid (t.data.toList.isPrefixOf (s.data.toList.drop k) = ((s.extract k (k + t.size)).toList == t.toList)) := by
     show _ = _
     rw [hp, e1, ByteArray.toList_eq, decide_eq_true (by simp; omega)]; rfl
   obtain ⟨m, hm⟩ : ∃ m, k + t.size = m := ⟨_, rfl⟩
   have m0 : (k : Int) + (t.size : Int) = (m : Int) := by omega
   have m1 : k ≤ m := by omega
   have m2 : m ≤ s.size := by omega
   rw [hm] at H
   clear hp e1 hl hlt h hm hI
   have hI : (m : Int) ≤ (s.size : Int) := by omega
   rw [H.out]
   go_enter Try.func110, Try.ntmps110
   go_wp2
   go_ret
   exact ⟨rfl, rfl⟩
 · have hI : ¬ (k : Int) + (t.size : Int) ≤ (s.size : Int) := by omega
   have H : Hid (t.data.toList.isPrefixOf (s.data.toList.drop k) = false) := by
     show _ = _
     rw [hp, decide_eq_false (by simp; omega)]; rfl
   clear hp hl hlt h
   rw [H.out]
   go_enter Try.func110, Try.ntmps110
   go_wp2
   go_ret
   exact ⟨rfl, rfl⟩
theorem kind_one (c : UInt8) : (kindN c == 1) = dgB c := by
 unfold kindN; cases dgB c
 · cases ltB c <;> rfl
 · rfl
theorem qdigits_any (s : ByteArray) (k : Nat) (w : World) (hk : k ≤ s.size) (hs : s.size ≤ 300) :
   Calls Try.prog 119 #[.string s, .int .i64 (k : Int)] w fun e w' => e = .returned (.int .i64 ((k + run dgB (s.data.toList.drop k) : Nat) : Int)) ∧ w' = w := by
 have hl := size_list s
 have HS : Hid (s.data.toList.length = s.size) := hl
 clear hl
 go_enter Try.func119, Try.ntmps119
 go_wp2
 go_loop [1] (fun i => ∃ j : Nat, j ≤ s.size ∧ i = .int .i64 j ∧ k + run dgB (s.data.toList.drop k) = j + run dgB (s.data.toList.drop j)) (fun i => s.size - (intOf i).toNat)
 case atStart => exact ⟨k, hk, rfl, rfl⟩
 case round =>
   obtain ⟨j, hj, rfl, ha⟩ := hrel
   have HA : Hid (k + run dgB (s.data.toList.drop k) = j + run dgB (s.data.toList.drop j)) := ha
   clear ha hk
   by_cases hlt : j < s.size
   · have HT : Hid (run dgB (s.data.toList.drop j) = if dgB s[j] then run dgB (s.data.toList.drop (j + 1)) + 1 else 0) := run_at dgB s.data.toList j (by have := HS.out; omega)
     have c1 := fun W => qkind_any s[j] W
     have k1 := kind_one s[j]
     cases hp : dgB s[j]
     · rw [hp] at k1
       have HP : Hid (dgB s[j] = false) := hp
       clear hp
       go_wp2_with fail
       refine (c1 _).mono ?_
       rintro e w1 ⟨rfl, rfl⟩
       go_wp2_with fail
       go_ret
       refine ⟨ret_int ?_, rfl⟩
       rw [HA.out, HT.out, HP.out]; simp
     · rw [hp] at k1
       have HP : Hid (dgB s[j] = true) := hp
       clear hp
       go_wp2_with fail
       refine (c1 _).mono ?_
       rintro e w1 ⟨rfl, rfl⟩
       go_wp2_with fail
       go_round
       case rel => exact ⟨j + 1, by omega, by go_num, by rw [HA.out, HT.out, HP.out]; simp; omega⟩
       case measure => simp [intOf]; omega
   · have HT : Hid (run dgB (s.data.toList.drop j) = 0) := run_off dgB s.data.toList j (by have := HS.out; omega)
     go_wp2_with fail
     go_ret
     refine ⟨ret_int ?_, rfl⟩
     have h1 := HA.out
     have h2 := HT.out
     omega

/-- How the document answers a word that begins at a place. -/
def RxR (r : Except Int Wd) (k : Nat) (e : Ending) : Prop :=
 match r with
 | .ok x => e = .returned (.tuple #[.agg #[.int .i64 x.1, .int .i64 (k : Int), .string (bs x.2.1), .int .i64 x.2.2.1, .int .i64 x.2.2.2.1], .int .i64 ((k + x.2.2.2.2 : Nat) : Int), .int .i64 0])
 | .error c => e = .returned (.tuple #[.agg #[.int .i64 0, .int .i64 0, .string ⟨#[]⟩, .int .i64 0, .int .i64 0], .int .i64 (k : Int), .int .i64 c])
theorem rx_fin (x : Wd) (k : Nat) (i : Int) (hi : i = ((k + x.2.2.2.2 : Nat) : Int)) :
   RxR (.ok x) k (.returned (.tuple #[.agg #[.int .i64 x.1, .int .i64 (k : Int), .string (bs x.2.1), .int .i64 x.2.2.1, .int .i64 x.2.2.2.1], .int .i64 i, .int .i64 0])) := by subst hi; rfl

theorem qnumber_any (s : ByteArray) (k : Nat) (w : World) (hk : k ≤ s.size) (hs : s.size ≤ 300) :
   Calls Try.prog 108 #[.string s, .int .i64 (k : Int)] w fun e w' => RxR (numR (s.data.toList.drop k)) k e ∧ Ext w w' := by
 have hl := size_list s
 obtain ⟨l, hll⟩ : ∃ l, s.data.toList.drop k = l := ⟨_, rfl⟩
 have hlen : l.length = s.size - k := by rw [← hll]; simp [hl]
 have c1 := fun W => qdigits_any s k W hk hs
 have hr := runL_le dgB l
 rw [hll] at c1 ⊢
 have hn := numE_le l
 have hng := numE_ge l
 obtain ⟨m, hm⟩ : ∃ m, k + numE l = m := ⟨_, rfl⟩
 have m1 : k ≤ m := by omega
 have m2 : m ≤ s.size := by omega
 obtain ⟨q, hq⟩ : ∃ q, s.extract k m = q := ⟨_, rfl⟩
 have hqs : q.size ≤ 300 := by rw [← hq, ByteArray.size_extract]; omega
 have hqq : q.data.toList = l.take (numE l) := by rw [← hq, ← hm, sub_bs, hll]; rfl
 have c3 := fun W => rparse_any q W (by unfold maxLen; omega)
 rw [hqq] at c3
 have H0 : Hid (rdK (l.take (numE l)) = 0 → numR l = .error 4) := numR_0
 have H2 : Hid (rdK (l.take (numE l)) = 2 → numR l = .error 2) := numR_2
 have H1 : Hid (rdK (l.take (numE l)) = 1 → numR l = .ok (0, [], rdV (l.take (numE l)), 0, numE l)) := numR_1
 have HM : Hid (k + numE l = m) := hm
 have HK : Hid (rdK (l.take (numE l)) = 0 ∨ rdK (l.take (numE l)) = 1 ∨ rdK (l.take (numE l)) = 2) := rdK_three _
 obtain ⟨K, hK⟩ : ∃ K, rdK (l.take (numE l)) = K := ⟨_, rfl⟩
 obtain ⟨V, hV⟩ : ∃ V, rdV (l.take (numE l)) = V := ⟨_, rfl⟩
 rw [hK] at c3 H0 H1 H2 HK
 rw [hV] at c3 H1
 obtain ⟨n1, hn1⟩ : ∃ n1, run dgB l = n1 := ⟨_, rfl⟩
 obtain ⟨e1, he1⟩ : ∃ e1, k + n1 = e1 := ⟨_, rfl⟩
 rw [hn1] at c1 hr hng
 rw [he1] at c1
 have e1a : k ≤ e1 := by omega
 have e1b : e1 ≤ s.size := by omega
 have hdr : s.data.toList.drop e1 = l.drop n1 := by rw [← hll, List.drop_drop]; congr 1; omega
 have c2 := fun W => qis_any s ⟨#[46]⟩ e1 W e1b hs (by decide)
 rw [hdr] at c2
 have hdot : ((⟨#[46]⟩ : ByteArray).data.toList.isPrefixOf (l.drop n1)) = decide (l[n1]? = some 46) := by
   show List.isPrefixOf [46] (l.drop n1) = _
   rw [Bool.eq_iff_iff]
   rw [← List.head?_drop]
   cases l.drop n1 with
   | nil => simp
   | cons c r => simp [List.isPrefixOf]; exact eq_comm
 rw [hdot] at c2
 have hE : numE l = if l[n1]? = some 46 ∧ 0 < run dgB (l.drop (n1 + 1)) then n1 + 1 + run dgB (l.drop (n1 + 1)) else n1 := by unfold numE; rw [hn1]
 have wk : wrap64 ((e1 : Int) + 1) = ((e1 + 1 : Nat) : Int) := by unfold wrap64; omega
 by_cases h1 : l[n1]? = some 46
 · rw [decide_eq_true h1] at c2
   have hb : e1 + 1 ≤ s.size := by have := (List.getElem?_eq_some_iff.mp h1).1; clear hE wk hdot; omega
   have c4 := fun W => qdigits_any s (e1 + 1) W hb hs
   have hdd : s.data.toList.drop (e1 + 1) = l.drop (n1 + 1) := by rw [← hll, List.drop_drop]; congr 1; omega
   rw [hdd] at c4
   by_cases h2 : 0 < run dgB (l.drop (n1 + 1))
   · rw [if_pos ⟨h1, h2⟩] at hE
     have hme : e1 + 1 + run dgB (l.drop (n1 + 1)) = m := by omega
     rw [hme] at c4
     have g1 : (e1 : Int) + 1 < (m : Int) := by omega
     clear h1 h2 hdd hme hb
     clear hr hn hng hm hqq hK hV hn1 he1 hE hlen hl hll hk hdr hdot
     go_enter Try.func108, Try.ntmps108
     rcases HK.out with k0 | k0 | k0
     · subst k0
       have R0 : Hid (numR l = .error 4) := H0.out rfl
       clear H0 H1 H2 HK
       go_wp2_with fail
       refine (c1 _).mono ?_
       rintro e w1 ⟨rfl, rfl⟩
       go_wp2_with fail
       refine (c2 _).mono ?_
       rintro e w2 ⟨rfl, rfl⟩
       go_wp2_with fail
       refine (c4 _).mono ?_
       rintro e w2 ⟨rfl, rfl⟩
       go_wp2_with fail
       refine (c4 _).mono ?_
       rintro e w2 ⟨rfl, rfl⟩
       go_wp2_with fail
       refine (c3 _).mono ?_
       rintro e w3 ⟨rfl, E3⟩
       have B3 := blk5_top rfl E3
       have X3 := ((Ext.refl w).alloc _).trans E3
       have D3 := B3
       obtain ⟨_, ⟨b0, b1, b2, b3, b4⟩, f0, f1, f2, f3, f4⟩ := D3
       clear E3
       go_wp2_with fail
       refine fin5 _ (B3.set _ _ _ _ _) rfl (by with_reducible repeat (first | assumption | exact Ext.refl _ | apply Ext.alloc | apply Ext.drewN | (refine Ext.setCell ?_ (by simp) _))) (fun g0 g1 g2 g3 g4 => by simp [results, Try.results108, go_sem, g0, g1, g2, g3, g4]; rfl) (fun h => ⟨?_, h⟩)
       rw [R0.out]
       exact rfl
     · subst k0
       have R0 : Hid (numR l = .ok (0, [], V, 0, numE l)) := H1.out rfl
       clear H0 H1 H2 HK
       go_wp2_with fail
       refine (c1 _).mono ?_
       rintro e w1 ⟨rfl, rfl⟩
       go_wp2_with fail
       refine (c2 _).mono ?_
       rintro e w2 ⟨rfl, rfl⟩
       go_wp2_with fail
       refine (c4 _).mono ?_
       rintro e w2 ⟨rfl, rfl⟩
       go_wp2_with fail
       refine (c4 _).mono ?_
       rintro e w2 ⟨rfl, rfl⟩
       go_wp2_with fail
       refine (c3 _).mono ?_
       rintro e w3 ⟨rfl, E3⟩
       have B3 := blk5_top rfl E3
       have X3 := ((Ext.refl w).alloc _).trans E3
       have D3 := B3
       obtain ⟨_, ⟨b0, b1, b2, b3, b4⟩, f0, f1, f2, f3, f4⟩ := D3
       clear E3
       go_wp2_with fail
       refine fin5 _ (B3.set _ _ _ _ _) rfl (by with_reducible repeat (first | assumption | exact Ext.refl _ | apply Ext.alloc | apply Ext.drewN | (refine Ext.setCell ?_ (by simp) _))) (fun g0 g1 g2 g3 g4 => by simp [results, Try.results108, go_sem, g0, g1, g2, g3, g4]; rfl) (fun h => ⟨?_, h⟩)
       rw [R0.out]
       exact rx_fin (0, [], V, 0, numE l) k _ (by rw [HM.out])
     · subst k0
       have R0 : Hid (numR l = .error 2) := H2.out rfl
       clear H0 H1 H2 HK
       go_wp2_with fail
       refine (c1 _).mono ?_
       rintro e w1 ⟨rfl, rfl⟩
       go_wp2_with fail
       refine (c2 _).mono ?_
       rintro e w2 ⟨rfl, rfl⟩
       go_wp2_with fail
       refine (c4 _).mono ?_
       rintro e w2 ⟨rfl, rfl⟩
       go_wp2_with fail
       refine (c4 _).mono ?_
       rintro e w2 ⟨rfl, rfl⟩
       go_wp2_with fail
       refine (c3 _).mono ?_
       rintro e w3 ⟨rfl, E3⟩
       have B3 := blk5_top rfl E3
       have X3 := ((Ext.refl w).alloc _).trans E3
       have D3 := B3
       obtain ⟨_, ⟨b0, b1, b2, b3, b4⟩, f0, f1, f2, f3, f4⟩ := D3
       clear E3
       go_wp2_with fail
       refine fin5 _ (B3.set _ _ _ _ _) rfl (by with_reducible repeat (first | assumption | exact Ext.refl _ | apply Ext.alloc | apply Ext.drewN | (refine Ext.setCell ?_ (by simp) _))) (fun g0 g1 g2 g3 g4 => by simp [results, Try.results108, go_sem, g0, g1, g2, g3, g4]; rfl) (fun h => ⟨?_, h⟩)
       rw [R0.out]
       exact rfl
   · rw [if_neg (fun h => h2 h.2)] at hE
     have hme : m = e1 := by omega
     have hme2 : e1 + 1 + run dgB (l.drop (n1 + 1)) = e1 + 1 := by omega
     rw [hme2] at c4
     subst hme
     have g1 : ¬ (m : Int) + 1 < (m : Int) + 1 := by omega
     clear h1 h2 hdd hme2 hb
     clear hr hn hng hm hqq hK hV hn1 hE hlen hl hll hk hdr hdot
     go_enter Try.func108, Try.ntmps108
     rcases HK.out with k0 | k0 | k0
     · subst k0
       have R0 : Hid (numR l = .error 4) := H0.out rfl
       clear H0 H1 H2 HK
       go_wp2_with fail
       refine (c1 _).mono ?_
       rintro e w1 ⟨rfl, rfl⟩
       go_wp2_with fail
       refine (c2 _).mono ?_
       rintro e w2 ⟨rfl, rfl⟩
       go_wp2_with fail
       refine (c4 _).mono ?_
       rintro e w2 ⟨rfl, rfl⟩
       go_wp2_with fail
       refine (c3 _).mono ?_
       rintro e w3 ⟨rfl, E3⟩
       have B3 := blk5_top rfl E3
       have X3 := ((Ext.refl w).alloc _).trans E3
       have D3 := B3
       obtain ⟨_, ⟨b0, b1, b2, b3, b4⟩, f0, f1, f2, f3, f4⟩ := D3
       clear E3
       go_wp2_with fail
       refine fin5 _ (B3.set _ _ _ _ _) rfl (by with_reducible repeat (first | assumption | exact Ext.refl _ | apply Ext.alloc | apply Ext.drewN | (refine Ext.setCell ?_ (by simp) _))) (fun g0 g1 g2 g3 g4 => by simp [results, Try.results108, go_sem, g0, g1, g2, g3, g4]; rfl) (fun h => ⟨?_, h⟩)
       rw [R0.out]
       exact rfl
     · subst k0
       have R0 : Hid (numR l = .ok (0, [], V, 0, numE l)) := H1.out rfl
       clear H0 H1 H2 HK
       go_wp2_with fail
       refine (c1 _).mono ?_
       rintro e w1 ⟨rfl, rfl⟩
       go_wp2_with fail
       refine (c2 _).mono ?_
       rintro e w2 ⟨rfl, rfl⟩
       go_wp2_with fail
       refine (c4 _).mono ?_
       rintro e w2 ⟨rfl, rfl⟩
       go_wp2_with fail
       refine (c3 _).mono ?_
       rintro e w3 ⟨rfl, E3⟩
       have B3 := blk5_top rfl E3
       have X3 := ((Ext.refl w).alloc _).trans E3
       have D3 := B3
       obtain ⟨_, ⟨b0, b1, b2, b3, b4⟩, f0, f1, f2, f3, f4⟩ := D3
       clear E3
       go_wp2_with fail
       refine fin5 _ (B3.set _ _ _ _ _) rfl (by with_reducible repeat (first | assumption | exact Ext.refl _ | apply Ext.alloc | apply Ext.drewN | (refine Ext.setCell ?_ (by simp) _))) (fun g0 g1 g2 g3 g4 => by simp [results, Try.results108, go_sem, g0, g1, g2, g3, g4]; rfl) (fun h => ⟨?_, h⟩)
       rw [R0.out]
       exact rx_fin (0, [], V, 0, numE l) k _ (by rw [HM.out])
     · subst k0
       have R0 : Hid (numR l = .error 2) := H2.out rfl
       clear H0 H1 H2 HK
       go_wp2_with fail
       refine (c1 _).mono ?_
       rintro e w1 ⟨rfl, rfl⟩
       go_wp2_with fail
       refine (c2 _).mono ?_
       rintro e w2 ⟨rfl, rfl⟩
       go_wp2_with fail
       refine (c4 _).mono ?_
       rintro e w2 ⟨rfl, rfl⟩
       go_wp2_with fail
       refine (c3 _).mono ?_
       rintro e w3 ⟨rfl, E3⟩
       have B3 := blk5_top rfl E3
       have X3 := ((Ext.refl w).alloc _).trans E3
       have D3 := B3
       obtain ⟨_, ⟨b0, b1, b2, b3, b4⟩, f0, f1, f2, f3, f4⟩ := D3
       clear E3
       go_wp2_with fail
       refine fin5 _ (B3.set _ _ _ _ _) rfl (by with_reducible repeat (first | assumption | exact Ext.refl _ | apply Ext.alloc | apply Ext.drewN | (refine Ext.setCell ?_ (by simp) _))) (fun g0 g1 g2 g3 g4 => by simp [results, Try.results108, go_sem, g0, g1, g2, g3, g4]; rfl) (fun h => ⟨?_, h⟩)
       rw [R0.out]
       exact rfl
 · rw [decide_eq_false h1] at c2
   rw [if_neg (fun h => h1 h.1)] at hE
   have hme : m = e1 := by omega
   subst hme
   clear h1
   clear hr hn hng hm hqq hK hV hn1 hE hlen hl hll hk hdr hdot
   go_enter Try.func108, Try.ntmps108
   rcases HK.out with k0 | k0 | k0
   · subst k0
     have R0 : Hid (numR l = .error 4) := H0.out rfl
     clear H0 H1 H2 HK
     go_wp2_with fail
     refine (c1 _).mono ?_
     rintro e w1 ⟨rfl, rfl⟩
     go_wp2_with fail
     refine (c2 _).mono ?_
     rintro e w2 ⟨rfl, rfl⟩
     go_wp2_with fail
     refine (c3 _).mono ?_
     rintro e w3 ⟨rfl, E3⟩
     have B3 := blk5_top rfl E3
     have X3 := ((Ext.refl w).alloc _).trans E3
     have D3 := B3
     obtain ⟨_, ⟨b0, b1, b2, b3, b4⟩, f0, f1, f2, f3, f4⟩ := D3
     clear E3
     go_wp2_with fail
     refine fin5 _ (B3.set _ _ _ _ _) rfl (by with_reducible repeat (first | assumption | exact Ext.refl _ | apply Ext.alloc | apply Ext.drewN | (refine Ext.setCell ?_ (by simp) _))) (fun g0 g1 g2 g3 g4 => by simp [results, Try.results108, go_sem, g0, g1, g2, g3, g4]; rfl) (fun h => ⟨?_, h⟩)
     rw [R0.out]
     exact rfl
   · subst k0
     have R0 : Hid (numR l = .ok (0, [], V, 0, numE l)) := H1.out rfl
     clear H0 H1 H2 HK
     go_wp2_with fail
     refine (c1 _).mono ?_
     rintro e w1 ⟨rfl, rfl⟩
     go_wp2_with fail
     refine (c2 _).mono ?_
     rintro e w2 ⟨rfl, rfl⟩
     go_wp2_with fail
     refine (c3 _).mono ?_
     rintro e w3 ⟨rfl, E3⟩
     have B3 := blk5_top rfl E3
     have X3 := ((Ext.refl w).alloc _).trans E3
     have D3 := B3
     obtain ⟨_, ⟨b0, b1, b2, b3, b4⟩, f0, f1, f2, f3, f4⟩ := D3
     clear E3
     go_wp2_with fail
     refine fin5 _ (B3.set _ _ _ _ _) rfl (by with_reducible repeat (first | assumption | exact Ext.refl _ | apply Ext.alloc | apply Ext.drewN | (refine Ext.setCell ?_ (by simp) _))) (fun g0 g1 g2 g3 g4 => by simp [results, Try.results108, go_sem, g0, g1, g2, g3, g4]; rfl) (fun h => ⟨?_, h⟩)
     rw [R0.out]
     exact rx_fin (0, [], V, 0, numE l) k _ (by rw [HM.out])
   · subst k0
     have R0 : Hid (numR l = .error 2) := H2.out rfl
     clear H0 H1 H2 HK
     go_wp2_with fail
     refine (c1 _).mono ?_
     rintro e w1 ⟨rfl, rfl⟩
     go_wp2_with fail
     refine (c2 _).mono ?_
     rintro e w2 ⟨rfl, rfl⟩
     go_wp2_with fail
     refine (c3 _).mono ?_
     rintro e w3 ⟨rfl, E3⟩
     have B3 := blk5_top rfl E3
     have X3 := ((Ext.refl w).alloc _).trans E3
     have D3 := B3
     obtain ⟨_, ⟨b0, b1, b2, b3, b4⟩, f0, f1, f2, f3, f4⟩ := D3
     clear E3
     go_wp2_with fail
     refine fin5 _ (B3.set _ _ _ _ _) rfl (by with_reducible repeat (first | assumption | exact Ext.refl _ | apply Ext.alloc | apply Ext.drewN | (refine Ext.setCell ?_ (by simp) _))) (fun g0 g1 g2 g3 g4 => by simp [results, Try.results108, go_sem, g0, g1, g2, g3, g4]; rfl) (fun h => ⟨?_, h⟩)
     rw [R0.out]
     exact rfl

open Go.RowKit
set_option maxHeartbeats 1000000

/-- v holds the bytes l in a block of the call's own, from base on. -/
def OwB (w : World) (base : Nat) (v : Value) (l : List UInt8) : Prop := (∃ g cap, v = .slice (some ⟨g, 0, none⟩) l.length cap) ∧ w.ownsRow base 5 1 v l.length (Lib.byteCells l)
theorem OwB.alloc {w : World} {base : Nat} {v : Value} {l : List UInt8} (h : OwB w base v l) (o : Obj) : OwB (w.alloc o) base v l := ⟨h.1, h.2.alloc o⟩
theorem OwB.conv {w : World} {base : Nat} {v : Value} {l : List UInt8} (h : OwB w base v l) : (convert 107 9 v).run Try.prog w = .ok (.string (bs l)) w := by
 obtain ⟨⟨g, cap, rfl⟩, h2⟩ := h
 exact run_convert_bytes_back w 107 9 5 ⟨g, 0, none⟩ cap l Try.underlying107 Try.underlying5 Try.underlying9 (fun j hj => h2.cells (g := g) rfl j _ (by rw [List.getElem?_eq_getElem (by rw [Lib.byteCells_length]; exact hj)]; simp [Lib.byteCells]))
theorem owb_new (W : World) (base : Nat) (h : base ≤ W.heap.size) : OwB (W.alloc (.cells #[] 5)) base (.slice (some ⟨W.heap.size, 0, none⟩) 0 0) [] :=
 ⟨⟨_, _, rfl⟩, World.ownsRow_made W #[] 0 h (by unfold maxLen; omega) (by simp)⟩
theorem ob_append {ops : Array Oper} {rest : List Oper} {o : Oper} {a : Act} {Q : Exit → Act → World → Prop} (w W : World) (base : Nat) (hbase : base = w.heap.size) (s x : Operand) (v : Value) (b : Nat) (l : List UInt8) (c : UInt8) (hgd : o.guard = none)
   (ho : o.op = .call { callee := .builtin .append, args := #[s, x], argTypes := #[107, 107] })
   (hs : a.eval s = v) (hx : a.eval x = .slice (some ⟨b, 0, none⟩) 1 1) (hB : OwB W base v l) (hR : W.cell? ⟨b, 0, none⟩ = some (.int .u8 (c.toNat : Int))) (hlen : l.length ≤ 100000) (hE : Ext w W)
   (h : ∀ v' W', OwB W' base v' (l ++ [c]) → Ext w W' → wpList Try.prog ops Q rest (a.put o.dst v') W') : wpList Try.prog ops Q (o :: rest) a W := by
 subst hbase
 obtain ⟨i, hi, hz, h1, h2⟩ := byte_info
 refine wpList_append_own_at W hgd s x 107 ho w.heap.size 5 i _ 1 1 Try.underlying107 hi hz h1 h2 rfl (by decide) v l.length (Lib.byteCells l) hs hB.2 ⟨b, 0, none⟩ 1 1 [.int .u8 (c.toNat : Int)] hx rfl ?_ ?_ (by unfold maxLen; omega) (by omega) hE.size ?_
 · intro j u hj
   match j, hj with
   | 0, hj => simp at hj; subst hj; rw [Addr.add_lit]; exact hR
 · intro u hu; simp at hu; subst hu; rfl
 · intro v' W' h3 h4 _ _
   have e : Lib.byteCells l ++ [.int .u8 (c.toNat : Int)] = Lib.byteCells (l ++ [c]) := by simp [Lib.byteCells]
   rw [e] at h3
   have e2 : (l ++ [c]).length = l.length + 1 := by simp
   refine h v' W' ⟨?_, by rw [e2]; exact h3⟩ ⟨h4.os.trans hE.os, h4.tape.trans hE.tape, h4.output.trans hE.output, Nat.le_trans hE.size h4.size, fun k hk => ?_⟩
   · rw [e2]
     rcases h3.2 with ⟨_, h0⟩ | ⟨g, cap, cur, hv, _⟩
     · omega
     · exact ⟨g, cap, hv⟩
   · refine (h4.block k (Nat.lt_of_lt_of_le hk hE.size) (fun e => ?_)).trans (hE.block k hk)
     have := (hB.2.lt k e.symm).1
     omega

theorem qtext_any (s : ByteArray) (k : Nat) (w : World) (hk : k < s.size) (hs : s.size ≤ 300) :
   Calls Try.prog 109 #[.string s, .int .i64 (k : Int)] w fun e w' => RxR (txtR (s.data.toList.drop k)) k e ∧ Ext w w' := by
 have hl := size_list s
 obtain ⟨l, hll⟩ : ∃ l, s.data.toList = l := ⟨_, rfl⟩
 have HL : Hid (l.length = s.size) := by show _ = _; rw [← hll]; exact hl
 have HA : Hid (∀ i (h : i < s.size) (h' : i < l.length), l[i] = s[i]) := by intro i h h'; subst hll; rfl
 have cI : ∀ i W, i ≤ s.size → Calls Try.prog 110 #[.string s, .int .i64 (i : Int), .string ⟨#[34]⟩] W fun e w' => e = .returned (.bool (decide ((l.drop i).head? = some 34))) ∧ w' = W := by
   intro i W hi
   have h := qis_any s ⟨#[34]⟩ i W hi hs (by decide)
   rw [hll] at h
   have hdot : ((⟨#[34]⟩ : ByteArray).data.toList.isPrefixOf (l.drop i)) = decide ((l.drop i).head? = some 34) := by
     show List.isPrefixOf [34] (l.drop i) = _
     rw [Bool.eq_iff_iff]
     cases l.drop i with
     | nil => simp
     | cons c r => simp [List.isPrefixOf]; exact eq_comm
   rwa [hdot] at h
 have HI : Hid (∀ i W, i ≤ s.size → Calls Try.prog 110 #[.string s, .int .i64 (i : Int), .string ⟨#[34]⟩] W fun e w' => e = .returned (.bool (decide ((l.drop i).head? = some 34))) ∧ w' = W) := cI
 rw [hll]
 clear hl hll cI
 go_enter Try.func109, Try.ntmps109
 go_wp2_with fail
 go_loopw [7, 8] (fun v i wr => ∃ (j : Nat) (acc : List UInt8), j ≤ s.size ∧ i = .int .i64 (j : Int) ∧ TxA l k j acc ∧ OwB wr (w.heap.size + 1) v acc ∧ Ext (w.alloc (.cells #[.int .i64 0, .int .i64 0, .string ⟨#[]⟩, .int .i64 0, .int .i64 0] 83)) wr) (fun _ i _ => s.size - (intOf i).toNat)
 case atStart => exact ⟨k + 1, [], hk, by go_num, TxA.start l k, by have := owb_new (w.alloc (.cells #[.int .i64 0, .int .i64 0, .string ⟨#[]⟩, .int .i64 0, .int .i64 0] 83)) _ (Nat.le_refl _); simpa using this, (Ext.refl _).alloc _⟩
 case round =>
   obtain ⟨j, acc, hj, rfl, hT, hO, hE⟩ := hrel
   obtain ⟨⟨g, cap, rfl⟩, hO2⟩ := hO
   have HT : Hid (TxA l k j acc) := hT
   have HO : Hid (OwB wr (w.heap.size + 1) (.slice (some ⟨g, 0, none⟩) acc.length cap) acc) := ⟨⟨g, cap, rfl⟩, hO2⟩
   have HE : Hid (Ext (w.alloc (.cells #[.int .i64 0, .int .i64 0, .string ⟨#[]⟩, .int .i64 0, .int .i64 0] 83)) wr) := hE
   have HC : Hid (acc.length ≤ 1000) := by have := hT.2.1; show _ ≤ _; omega
   have HJ : Hid (k + 1 ≤ j) := hT.1
   clear hT hO2 hE
   by_cases hlt : j < s.size
   · have hltI : (j : Int) < (s.size : Int) := by omega
     have wk : wrap64 ((j : Int) + 1) = ((j + 1 : Nat) : Int) := by unfold wrap64; omega
     have hb := byte_ne (c := s[j]) 34 (by omega)
     by_cases h1 : s[j] = 34
     · have tb : (((s[j]).toNat : Int) != 34) = false := by rw [bne, show (34 : Int) = ((34 : Nat) : Int) from rfl, hb, h1]; rfl
       have c1 := fun W => HI.out (j + 1) W hlt
       by_cases h2 : (l.drop (j + 1)).head? = some 34
       · rw [decide_eq_true h2] at c1
         have hlt2 : j + 1 < l.length := by
           rw [List.head?_drop] at h2; exact (List.getElem?_eq_some_iff.mp h2).1
         have HX : Hid (TxA l k (j + 1 + 1) (acc ++ [34])) := by
           rw [List.head?_drop, List.getElem?_eq_getElem hlt2] at h2
           exact HT.out.two hlt2 (by rw [HA.out j hlt]; exact h1) (Option.some.inj h2)
         have hlt3 : (j : Int) + 1 < (s.size : Int) := by have := HL.out; omega
         have HB : Hid (j + 1 + 1 ≤ s.size) := by have := HL.out; show _ ≤ _; omega
         clear hb h1 h2 hlt2
         go_wp2_with fail
         refine (c1 _).mono ?_
         rintro e w1 ⟨rfl, rfl⟩
         go_wp2_with (at_builtin; refine ob_append (w.alloc (.cells #[.int .i64 0, .int .i64 0, .string ⟨#[]⟩, .int .i64 0, .int .i64 0] 83)) _ (w.heap.size + 1) (by simp) _ _ _ _ acc 34 rfl rfl (by rfl) (by rfl) (HO.out.alloc _) (by simp) (by have := HC.out; omega) (HE.out.alloc _) ?_)
         intro v' w2 k1 k2
         have HO2 : Hid (OwB w2 (w.heap.size + 1) v' (acc ++ [34]) ∧ Ext (w.alloc (.cells #[.int .i64 0, .int .i64 0, .string ⟨#[]⟩, .int .i64 0, .int .i64 0] 83)) w2) := ⟨k1, k2⟩
         clear k1 k2
         go_wp2_with fail
         go_roundw
         case rel => exact ⟨j + 1 + 1, acc ++ [34], HB.out, by go_num, HX.out, HO2.out.1, HO2.out.2⟩
         case measure => simp [intOf]; omega
       · rw [decide_eq_false h2] at c1
         have HX : Hid (txtR (l.drop k) = .ok (1, acc, 0, 0, j + 1 - k)) := HT.out.done (by have := HL.out; omega) (by rw [HA.out j hlt]; exact h1) h2
         have CV : Hid (∀ v, v = Value.slice (some ⟨g, 0, none⟩) acc.length cap → (convert 107 9 v).run Try.prog wr = .ok (.string (bs acc)) wr) := by rintro v rfl; exact HO.out.conv
         clear hb h1 h2
         go_wp2_with fail
         refine (c1 _).mono ?_
         rintro e w1 ⟨rfl, rfl⟩
         have hcv := CV.out _ rfl
         obtain ⟨q, hq⟩ : ∃ q, bs acc = q := ⟨_, rfl⟩
         rw [hq] at hcv
         have HQ : Hid (bs acc = q) := hq
         have B3 := blk5_top rfl HE.out
         have X3 := ((Ext.refl w).alloc _).trans HE.out
         have D3 := B3
         obtain ⟨_, ⟨b0, b1, b2, b3, b4⟩, f0, f1, f2, f3, f4⟩ := D3
         clear hq
         go_wp2_with fail
         refine fin5 _ (B3.set _ _ _ _ _) rfl (by with_reducible repeat (first | assumption | exact Ext.refl _ | apply Ext.alloc | apply Ext.drewN | (refine Ext.setCell ?_ (by simp) _))) (fun g0 g1 g2 g3 g4 => by simp [results, Try.results109, go_sem, g0, g1, g2, g3, g4]; rfl) (fun h => ⟨?_, h⟩)
         rw [HX.out]
         rw [← HQ.out]
         exact rx_fin (1, acc, 0, 0, j + 1 - k) k _ (by have := HJ.out; simp; omega)
     · have tb : (((s[j]).toNat : Int) != 34) = true := by rw [bne, show (34 : Int) = ((34 : Nat) : Int) from rfl, hb]; simpa using h1
       have HX : Hid (TxA l k (j + 1) (acc ++ [s[j]])) := by
         have h3 : j < l.length := by have := HL.out; omega
         have := HT.out.one h3 (by rw [HA.out j hlt]; exact h1)
         rwa [HA.out j hlt] at this
       clear hb h1
       go_wp2_with (at_builtin; refine ob_append (w.alloc (.cells #[.int .i64 0, .int .i64 0, .string ⟨#[]⟩, .int .i64 0, .int .i64 0] 83)) _ (w.heap.size + 1) (by simp) _ _ _ _ acc s[j] rfl rfl (by rfl) (by rfl) (HO.out.alloc _) (by simp) (by have := HC.out; omega) (HE.out.alloc _) ?_)
       intro v' w2 k1 k2
       have HO2 : Hid (OwB w2 (w.heap.size + 1) v' (acc ++ [s[j]]) ∧ Ext (w.alloc (.cells #[.int .i64 0, .int .i64 0, .string ⟨#[]⟩, .int .i64 0, .int .i64 0] 83)) w2) := ⟨k1, k2⟩
       clear k1 k2
       go_wp2_with fail
       go_roundw
       case rel => exact ⟨j + 1, acc ++ [s[j]], by omega, by go_num, HX.out, HO2.out.1, HO2.out.2⟩
       case measure => simp [intOf]; omega
   · have hltI : ¬ (j : Int) < (s.size : Int) := by omega
     have HX : Hid (txtR (l.drop k) = .error 4) := HT.out.none (by have := HL.out; omega)
     have B3 := blk5_top rfl HE.out
     have X3 := ((Ext.refl w).alloc _).trans HE.out
     have D3 := B3
     obtain ⟨_, ⟨b0, b1, b2, b3, b4⟩, f0, f1, f2, f3, f4⟩ := D3
     go_wp2_with fail
     refine fin5 _ (B3.set _ _ _ _ _) rfl (by with_reducible repeat (first | assumption | exact Ext.refl _ | apply Ext.alloc | apply Ext.drewN | (refine Ext.setCell ?_ (by simp) _))) (fun g0 g1 g2 g3 g4 => by simp [results, Try.results109, go_sem, g0, g1, g2, g3, g4]; rfl) (fun h => ⟨?_, h⟩)
     rw [HX.out]
     exact rfl

open Go.RowKit
set_option maxHeartbeats 1000000

theorem kind_two (c : UInt8) (h : dgB c = false) : (kindN c == 2) = ltB c := by
 unfold kindN; rw [h]; cases ltB c <;> rfl
theorem kind_pos (c : UInt8) : decide (0 < kindN c) = (ltB c || dgB c) := by
 unfold kindN; cases dgB c <;> cases ltB c <;> rfl
theorem err_first {l : List UInt8} {x : Int × List UInt8} (h : errT l = some x) : l.head? = some 35 := by
 unfold errT at h
 have h1 := List.find?_some h
 have h2 := List.mem_of_find?_eq_some h
 obtain ⟨t, rfl⟩ := List.isPrefixOf_iff_prefix.mp h1
 simp [errsL] at h2; rcases h2 with rfl | rfl | rfl | rfl | rfl <;> rfl
def sg12 : List UInt8 := [60, 62, 61, 43, 45, 42, 47, 38, 40, 41, 44, 58]
/-- A sign, as the document asks for it. -/
theorem sg_two {l p : List UInt8} (hp : p = [60, 62] ∨ p = [60, 61] ∨ p = [62, 61]) (h : p.isPrefixOf l = true) : sgR l = .ok (3, l.take 2, 0, 0, 2) := by
 obtain ⟨t, rfl⟩ := List.isPrefixOf_iff_prefix.mp h
 rcases hp with rfl | rfl | rfl <;> rfl
theorem sg_one {c : UInt8} {r : List UInt8} (h1 : List.isPrefixOf [60, 62] (c :: r) = false) (h2 : List.isPrefixOf [60, 61] (c :: r) = false) (h3 : List.isPrefixOf [62, 61] (c :: r) = false) :
   sgR (c :: r) = if c ∈ sg12 then .ok (3, [c], 0, 0, 1) else .error 4 := by
 unfold sgR sgT sgsL
 simp only [List.find?_cons, h1, h2, h3]
 simp only [List.isPrefixOf_cons_cons, List.isPrefixOf_nil_left, Bool.and_true, List.find?_nil]
 unfold sg12
 simp only [List.mem_cons, List.not_mem_nil, or_false]
 by_cases g0 : c = 60
 · subst g0; rfl
 by_cases g1 : c = 62
 · subst g1; rfl
 by_cases g2 : c = 61
 · subst g2; rfl
 by_cases g3 : c = 43
 · subst g3; rfl
 by_cases g4 : c = 45
 · subst g4; rfl
 by_cases g5 : c = 42
 · subst g5; rfl
 by_cases g6 : c = 47
 · subst g6; rfl
 by_cases g7 : c = 38
 · subst g7; rfl
 by_cases g8 : c = 40
 · subst g8; rfl
 by_cases g9 : c = 41
 · subst g9; rfl
 by_cases g10 : c = 44
 · subst g10; rfl
 by_cases g11 : c = 58
 · subst g11; rfl
 have e : ∀ d : UInt8, c ≠ d → (d == c) = false := fun d h => by simpa using fun e : d = c => h e.symm
 rw [e 60 g0, e 62 g1, e 61 g2, e 43 g3, e 45 g4, e 42 g5, e 47 g6, e 38 g7, e 40 g8, e 41 g9, e 44 g10, e 58 g11, if_neg (by simp [g0, g1, g2, g3, g4, g5, g6, g7, g8, g9, g10, g11])]
theorem nxt_err {c : UInt8} {r : List UInt8} (h1 : dgB c = false) (h2 : c ≠ 34) (h3 : ltB c = false) {x : Int × List UInt8} (h : errT (c :: r) = some x) : nxt (c :: r) = .ok (4, [], 0, x.1, x.2.length) := by
 have hc := err_first h
 simp at hc
 rw [nxt_cons, h1, if_neg (by simp), if_neg h2, h3, if_neg (by simp), if_pos hc]; unfold errR; rw [h]
theorem nxt_sg {c : UInt8} {r : List UInt8} (h1 : dgB c = false) (h2 : c ≠ 34) (h3 : ltB c = false) (h : errT (c :: r) = none) : nxt (c :: r) = sgR (c :: r) := by
 rw [nxt_cons, h1, if_neg (by simp), if_neg h2, h3, if_neg (by simp)]
 by_cases hc : c = 35
 · rw [if_pos hc]; unfold errR; rw [h]; subst hc; rfl
 · rw [if_neg hc]
theorem sg12_0 (W : World) : (Instr.index 9 (.string ⟨#[60, 62, 61, 43, 45, 42, 47, 38, 40, 41, 44, 58]⟩) (.int .i64 0)).run Try.prog W = .ok (.int .u8 60) W := by kernel_rfl
theorem sg12_1 (W : World) : (Instr.index 9 (.string ⟨#[60, 62, 61, 43, 45, 42, 47, 38, 40, 41, 44, 58]⟩) (.int .i64 1)).run Try.prog W = .ok (.int .u8 62) W := by kernel_rfl
theorem sg12_2 (W : World) : (Instr.index 9 (.string ⟨#[60, 62, 61, 43, 45, 42, 47, 38, 40, 41, 44, 58]⟩) (.int .i64 2)).run Try.prog W = .ok (.int .u8 61) W := by kernel_rfl
theorem sg12_3 (W : World) : (Instr.index 9 (.string ⟨#[60, 62, 61, 43, 45, 42, 47, 38, 40, 41, 44, 58]⟩) (.int .i64 3)).run Try.prog W = .ok (.int .u8 43) W := by kernel_rfl
theorem sg12_4 (W : World) : (Instr.index 9 (.string ⟨#[60, 62, 61, 43, 45, 42, 47, 38, 40, 41, 44, 58]⟩) (.int .i64 4)).run Try.prog W = .ok (.int .u8 45) W := by kernel_rfl
theorem sg12_5 (W : World) : (Instr.index 9 (.string ⟨#[60, 62, 61, 43, 45, 42, 47, 38, 40, 41, 44, 58]⟩) (.int .i64 5)).run Try.prog W = .ok (.int .u8 42) W := by kernel_rfl
theorem sg12_6 (W : World) : (Instr.index 9 (.string ⟨#[60, 62, 61, 43, 45, 42, 47, 38, 40, 41, 44, 58]⟩) (.int .i64 6)).run Try.prog W = .ok (.int .u8 47) W := by kernel_rfl
theorem sg12_7 (W : World) : (Instr.index 9 (.string ⟨#[60, 62, 61, 43, 45, 42, 47, 38, 40, 41, 44, 58]⟩) (.int .i64 7)).run Try.prog W = .ok (.int .u8 38) W := by kernel_rfl
theorem sg12_8 (W : World) : (Instr.index 9 (.string ⟨#[60, 62, 61, 43, 45, 42, 47, 38, 40, 41, 44, 58]⟩) (.int .i64 8)).run Try.prog W = .ok (.int .u8 40) W := by kernel_rfl
theorem sg12_9 (W : World) : (Instr.index 9 (.string ⟨#[60, 62, 61, 43, 45, 42, 47, 38, 40, 41, 44, 58]⟩) (.int .i64 9)).run Try.prog W = .ok (.int .u8 41) W := by kernel_rfl
theorem sg12_10 (W : World) : (Instr.index 9 (.string ⟨#[60, 62, 61, 43, 45, 42, 47, 38, 40, 41, 44, 58]⟩) (.int .i64 10)).run Try.prog W = .ok (.int .u8 44) W := by kernel_rfl
theorem sg12_11 (W : World) : (Instr.index 9 (.string ⟨#[60, 62, 61, 43, 45, 42, 47, 38, 40, 41, 44, 58]⟩) (.int .i64 11)).run Try.prog W = .ok (.int .u8 58) W := by kernel_rfl
theorem sg12_at (j : Nat) (p : UInt8) (h : sg12[j]? = some p) (W : World) : (Instr.index 9 (.string ⟨#[60, 62, 61, 43, 45, 42, 47, 38, 40, 41, 44, 58]⟩) (.int .i64 (j : Int))).run Try.prog W = .ok (.int .u8 (p.toNat : Int)) W := by
 have hj : j < 12 := (List.getElem?_eq_some_iff.mp h).1
 have hh : j = 0 ∨ j = 1 ∨ j = 2 ∨ j = 3 ∨ j = 4 ∨ j = 5 ∨ j = 6 ∨ j = 7 ∨ j = 8 ∨ j = 9 ∨ j = 10 ∨ j = 11 := by omega
 rcases hh with rfl | rfl | rfl | rfl | rfl | rfl | rfl | rfl | rfl | rfl | rfl | rfl
 · simp [sg12] at h; subst h; exact sg12_0 W
 · simp [sg12] at h; subst h; exact sg12_1 W
 · simp [sg12] at h; subst h; exact sg12_2 W
 · simp [sg12] at h; subst h; exact sg12_3 W
 · simp [sg12] at h; subst h; exact sg12_4 W
 · simp [sg12] at h; subst h; exact sg12_5 W
 · simp [sg12] at h; subst h; exact sg12_6 W
 · simp [sg12] at h; subst h; exact sg12_7 W
 · simp [sg12] at h; subst h; exact sg12_8 W
 · simp [sg12] at h; subst h; exact sg12_9 W
 · simp [sg12] at h; subst h; exact sg12_10 W
 · simp [sg12] at h; subst h; exact sg12_11 W
theorem qerrname_at (i : Nat) (x : Int × List UInt8) (hx : errsL[i]? = some x) (w : World) : Calls Try.prog 69 #[.int .i64 ((i + 1 : Nat) : Int)] w fun r w' => r = .returned (.string (bs x.2)) ∧ w' = w := by
 have hi : i < 5 := (List.getElem?_eq_some_iff.mp hx).1
 have hh : i = 0 ∨ i = 1 ∨ i = 2 ∨ i = 3 ∨ i = 4 := by omega
 rcases hh with rfl | rfl | rfl | rfl | rfl
 all_goals
   simp [errsL] at hx
   subst hx
   clear hi
   go_enter Try.func69, Try.ntmps69
   go_wp2_with fail
   go_ret
   exact ⟨rfl, rfl⟩

set_option maxHeartbeats 4000000 in
theorem qword_any (s : ByteArray) (k : Nat) (w : World) (hk : k < s.size) (hs : s.size ≤ 300) :
   Calls Try.prog 92 #[.string s, .int .i64 (k : Int)] w fun e w' => RxR (nxt (s.data.toList.drop k)) k e ∧ Ext w w' := by
 have hl := size_list s
 have hkI : (k : Int) < (s.size : Int) := by omega
 obtain ⟨l, hll⟩ : ∃ l, s.data.toList.drop k = l := ⟨_, rfl⟩
 have hc : l = s[k] :: s.data.toList.drop (k + 1) := by rw [← hll, List.drop_eq_getElem_cons (by rw [hl]; exact hk)]; rfl
 have hn : nxt l = if dgB s[k] then numR l else if s[k] = 34 then txtR l else if ltB s[k] then wdR l else if s[k] = 35 then errR l else sgR l := by
   rw [hc]; exact nxt_cons _ _
 have d1 := fun W => qkind_any s[k] W
 have k1 := kind_one s[k]
 have k2 := kind_two s[k]
 obtain ⟨K, hK⟩ : ∃ K, kindN s[k] = K := ⟨_, rfl⟩
 rw [hK] at d1 k1 k2
 have b1 := byte_ne (c := s[k]) 34 (by omega)
 have c1 := fun W => qnumber_any s k W (Nat.le_of_lt hk) hs
 have c2 := fun W => qtext_any s k W hk hs
 rw [hll] at c1 c2 ⊢
 cases h1 : dgB s[k]
 case true =>
   rw [h1] at k1 hn
   simp only [if_true] at hn
   clear h1 b1 k2 hK hl hll hc
   have HN : Hid (nxt l = numR l) := hn
   clear hn
   cases hr : numR l with
   | ok x =>
     have HR : Hid (numR l = .ok x) := hr
     obtain ⟨x0, x1, x2, x3, x4⟩ := x
     have C : ∀ W, Calls Try.prog 108 #[.string s, .int .i64 (k : Int)] W fun e w' => e = .returned (.tuple #[.agg #[.int .i64 x0, .int .i64 (k : Int), .string (bs x1), .int .i64 x2, .int .i64 x3], .int .i64 ((k + x4 : Nat) : Int), .int .i64 0]) ∧ Ext W w' := by rw [hr] at c1; exact c1
     clear hr c1 c2
     obtain ⟨q1, hq1⟩ : ∃ q1, bs x1 = q1 := ⟨_, rfl⟩
     obtain ⟨m, hm⟩ : ∃ m, k + x4 = m := ⟨_, rfl⟩
     rw [hq1, hm] at C
     have HQ : Hid (bs x1 = q1 ∧ k + x4 = m) := ⟨hq1, hm⟩
     clear hq1 hm
     go_enter Try.func92, Try.ntmps92
     go_wp2_with fail
     refine (d1 _).mono ?_
     rintro e w1 ⟨rfl, rfl⟩
     go_wp2_with fail
     refine (C _).mono ?_
     rintro e w3 ⟨rfl, E3⟩
     have B3 := blk5_top rfl E3
     have X3 := ((Ext.refl w).alloc _).trans E3
     have D3 := B3
     obtain ⟨_, ⟨b0, b1, b2, b3, b4⟩, f0, f1, f2, f3, f4⟩ := D3
     clear E3
     go_wp2_with fail
     refine fin5 _ (B3.set _ _ _ _ _) rfl (by with_reducible repeat (first | assumption | exact Ext.refl _ | apply Ext.alloc | apply Ext.drewN | (refine Ext.setCell ?_ (by simp) _))) (fun g0 g1 g2 g3 g4 => by simp [results, Try.results92, go_sem, g0, g1, g2, g3, g4]; rfl) (fun h => ⟨?_, h⟩)
     rw [HN.out, HR.out, ← HQ.out.1]
     exact rx_fin (x0, x1, x2, x3, x4) k _ (by rw [← HQ.out.2])
   | error c =>
     have HR : Hid (numR l = .error c) := hr
     have C : ∀ W, Calls Try.prog 108 #[.string s, .int .i64 (k : Int)] W fun e w' => e = .returned (.tuple #[.agg #[.int .i64 0, .int .i64 0, .string ⟨#[]⟩, .int .i64 0, .int .i64 0], .int .i64 (k : Int), .int .i64 c]) ∧ Ext W w' := by rw [hr] at c1; exact c1
     clear hr c1 c2
     go_enter Try.func92, Try.ntmps92
     go_wp2_with fail
     refine (d1 _).mono ?_
     rintro e w1 ⟨rfl, rfl⟩
     go_wp2_with fail
     refine (C _).mono ?_
     rintro e w3 ⟨rfl, E3⟩
     have B3 := blk5_top rfl E3
     have X3 := ((Ext.refl w).alloc _).trans E3
     have D3 := B3
     obtain ⟨_, ⟨b0, b1, b2, b3, b4⟩, f0, f1, f2, f3, f4⟩ := D3
     clear E3
     go_wp2_with fail
     refine fin5 _ (B3.set _ _ _ _ _) rfl (by with_reducible repeat (first | assumption | exact Ext.refl _ | apply Ext.alloc | apply Ext.drewN | (refine Ext.setCell ?_ (by simp) _))) (fun g0 g1 g2 g3 g4 => by simp [results, Try.results92, go_sem, g0, g1, g2, g3, g4]; rfl) (fun h => ⟨?_, h⟩)
     rw [HN.out, HR.out]
     exact rfl
 rw [h1] at k1 hn
 simp only [Bool.false_eq_true, if_false] at hn
 replace k2 := k2 h1
 by_cases h2 : s[k] = 34
 · rw [if_pos h2] at hn
   have t1 : (((s[k]).toNat : Int) == 34) = true := by rw [show (34 : Int) = ((34 : Nat) : Int) from rfl, b1, h2]; rfl
   clear h1 h2 b1 k2 hK hl hll hc
   have HN : Hid (nxt l = txtR l) := hn
   clear hn
   cases hr : txtR l with
   | ok x =>
     have HR : Hid (txtR l = .ok x) := hr
     obtain ⟨x0, x1, x2, x3, x4⟩ := x
     have C : ∀ W, Calls Try.prog 109 #[.string s, .int .i64 (k : Int)] W fun e w' => e = .returned (.tuple #[.agg #[.int .i64 x0, .int .i64 (k : Int), .string (bs x1), .int .i64 x2, .int .i64 x3], .int .i64 ((k + x4 : Nat) : Int), .int .i64 0]) ∧ Ext W w' := by rw [hr] at c2; exact c2
     clear hr c1 c2
     obtain ⟨q1, hq1⟩ : ∃ q1, bs x1 = q1 := ⟨_, rfl⟩
     obtain ⟨m, hm⟩ : ∃ m, k + x4 = m := ⟨_, rfl⟩
     rw [hq1, hm] at C
     have HQ : Hid (bs x1 = q1 ∧ k + x4 = m) := ⟨hq1, hm⟩
     clear hq1 hm
     go_enter Try.func92, Try.ntmps92
     go_wp2_with fail
     refine (d1 _).mono ?_
     rintro e w1 ⟨rfl, rfl⟩
     go_wp2_with fail
     refine (C _).mono ?_
     rintro e w3 ⟨rfl, E3⟩
     have B3 := blk5_top rfl E3
     have X3 := ((Ext.refl w).alloc _).trans E3
     have D3 := B3
     obtain ⟨_, ⟨b0, b1, b2, b3, b4⟩, f0, f1, f2, f3, f4⟩ := D3
     clear E3
     go_wp2_with fail
     refine fin5 _ (B3.set _ _ _ _ _) rfl (by with_reducible repeat (first | assumption | exact Ext.refl _ | apply Ext.alloc | apply Ext.drewN | (refine Ext.setCell ?_ (by simp) _))) (fun g0 g1 g2 g3 g4 => by simp [results, Try.results92, go_sem, g0, g1, g2, g3, g4]; rfl) (fun h => ⟨?_, h⟩)
     rw [HN.out, HR.out, ← HQ.out.1]
     exact rx_fin (x0, x1, x2, x3, x4) k _ (by rw [← HQ.out.2])
   | error c =>
     have HR : Hid (txtR l = .error c) := hr
     have C : ∀ W, Calls Try.prog 109 #[.string s, .int .i64 (k : Int)] W fun e w' => e = .returned (.tuple #[.agg #[.int .i64 0, .int .i64 0, .string ⟨#[]⟩, .int .i64 0, .int .i64 0], .int .i64 (k : Int), .int .i64 c]) ∧ Ext W w' := by rw [hr] at c2; exact c2
     clear hr c1 c2
     go_enter Try.func92, Try.ntmps92
     go_wp2_with fail
     refine (d1 _).mono ?_
     rintro e w1 ⟨rfl, rfl⟩
     go_wp2_with fail
     refine (C _).mono ?_
     rintro e w3 ⟨rfl, E3⟩
     have B3 := blk5_top rfl E3
     have X3 := ((Ext.refl w).alloc _).trans E3
     have D3 := B3
     obtain ⟨_, ⟨b0, b1, b2, b3, b4⟩, f0, f1, f2, f3, f4⟩ := D3
     clear E3
     go_wp2_with fail
     refine fin5 _ (B3.set _ _ _ _ _) rfl (by with_reducible repeat (first | assumption | exact Ext.refl _ | apply Ext.alloc | apply Ext.drewN | (refine Ext.setCell ?_ (by simp) _))) (fun g0 g1 g2 g3 g4 => by simp [results, Try.results92, go_sem, g0, g1, g2, g3, g4]; rfl) (fun h => ⟨?_, h⟩)
     rw [HN.out, HR.out]
     exact rfl
 rw [if_neg h2] at hn
 have t1 : (((s[k]).toNat : Int) == 34) = false := by rw [show (34 : Int) = ((34 : Nat) : Int) from rfl, b1]; simpa using h2
 cases h3 : ltB s[k]
 case true =>
   rw [h3] at k2 hn
   simp only [if_true] at hn
   have HN : Hid (nxt l = .ok (2, l.take (run inW l), 0, 0, run inW l)) := hn
   have HL : Hid (s.data.toList.length = s.size) := hl
   have HD : Hid (s.data.toList.drop k = l) := hll
   clear h1 h2 h3 b1 hK hl hll hc hn c1 c2
   go_enter Try.func92, Try.ntmps92
   go_wp2_with fail
   refine (d1 _).mono ?_
   rintro e w1 ⟨rfl, rfl⟩
   go_wp2_with fail
   refine (d1 _).mono ?_
   rintro e w1 ⟨rfl, rfl⟩
   go_wp2_with fail
   go_loopw [7] (fun i wr => ∃ j : Nat, k ≤ j ∧ j ≤ s.size ∧ i = .int .i64 (j : Int) ∧ k + run inW l = j + run inW (s.data.toList.drop j) ∧ wr = w.alloc (.cells #[.int .i64 0, .int .i64 0, .string ⟨#[]⟩, .int .i64 0, .int .i64 0] 83)) (fun i _ => s.size - (intOf i).toNat)
   case atStart => exact ⟨k, Nat.le_refl _, Nat.le_of_lt hk, rfl, by rw [HD.out], rfl⟩
   case round =>
     obtain ⟨j, hkj, hj, rfl, ha, rfl⟩ := hrel
     have HA : Hid (k + run inW l = j + run inW (s.data.toList.drop j)) := ha
     clear ha
     by_cases hlt : j < s.size
     · have hltI : (j : Int) < (s.size : Int) := by omega
       have HT : Hid (run inW (s.data.toList.drop j) = if inW s[j] then run inW (s.data.toList.drop (j + 1)) + 1 else 0) := run_at inW s.data.toList j (by have := HL.out; omega)
       have e1 := fun W => qkind_any s[j] W
       have p1 := kind_pos s[j]
       obtain ⟨N, hN⟩ : ∃ N, kindN s[j] = N := ⟨_, rfl⟩
       rw [hN] at e1 p1
       have b2 := byte_ne (c := s[j]) 95 (by omega)
       have b3 : (((s[j]).toNat : Int) == 95) = (s[j] == 95) := by rw [show (95 : Int) = ((95 : Nat) : Int) from rfl, b2]; rfl
       have wk : wrap64 ((j : Int) + 1) = ((j + 1 : Nat) : Int) := by unfold wrap64; omega
       cases hp : (ltB s[j] || dgB s[j])
       · rw [hp] at p1
         have q1 : ¬ (0 : Int) < N := by simpa using p1
         cases hu : (s[j] == 95)
         · have HP : Hid (inW s[j] = false) := by show _ = _; unfold inW; rw [hp, hu]; rfl
           rw [hu] at b3
           clear hp hu hN b2
           go_wp2_with fail
           refine (e1 _).mono ?_
           rintro e w1 ⟨rfl, rfl⟩
           go_wp2_with fail
           refine fin5 _ (blk5_top rfl (Ext.refl _)) rfl ((Ext.refl _).alloc _) (fun g0 g1 g2 g3 g4 => by simp [results, Try.results92, go_sem, g0, g1, g2, g3, g4]; rfl) (fun h => ⟨?_, h⟩)
           have hm : j = k + run inW l := by have h1 := HA.out; have h2 := HT.out; rw [HP.out] at h2; simp at h2; omega
           rw [HN.out, hm, sub_bs, HD.out]
           exact rx_fin (2, l.take (run inW l), 0, 0, run inW l) k _ rfl
         · have HP : Hid (inW s[j] = true) := by show _ = _; unfold inW; rw [hp, hu]; rfl
           rw [hu] at b3
           clear hp hu hN b2
           go_wp2_with fail
           refine (e1 _).mono ?_
           rintro e w1 ⟨rfl, rfl⟩
           go_wp2_with fail
           go_roundw
           case rel => exact ⟨j + 1, by omega, by omega, by go_num, by rw [HA.out, HT.out, HP.out]; simp; omega, trivial⟩
           case measure => simp [intOf]; omega
       · rw [hp] at p1
         have q1 : (0 : Int) < N := by simpa using p1
         have HP : Hid (inW s[j] = true) := by show _ = _; unfold inW; rw [hp]; rfl
         clear hp hN b2 b3
         go_wp2_with fail
         refine (e1 _).mono ?_
         rintro e w1 ⟨rfl, rfl⟩
         go_wp2_with fail
         go_roundw
         case rel => exact ⟨j + 1, by omega, by omega, by go_num, by rw [HA.out, HT.out, HP.out]; simp; omega, trivial⟩
         case measure => simp [intOf]; omega
     · have hltI : ¬ (j : Int) < (s.size : Int) := by omega
       have HT : Hid (run inW (s.data.toList.drop j) = 0) := run_off inW s.data.toList j (by have := HL.out; omega)
       have hjs : j ≤ s.size := hj
       go_wp2_with fail
       refine fin5 _ (blk5_top rfl (Ext.refl _)) rfl ((Ext.refl _).alloc _) (fun g0 g1 g2 g3 g4 => by simp [results, Try.results92, go_sem, g0, g1, g2, g3, g4]; rfl) (fun h => ⟨?_, h⟩)
       have hm : j = k + run inW l := by have h1 := HA.out; have h2 := HT.out; omega
       rw [HN.out, hm, sub_bs, HD.out]
       exact rx_fin (2, l.take (run inW l), 0, 0, run inW l) k _ rfl
 rw [h3] at k2
 have HE : Hid (∀ x, errT l = some x → nxt l = .ok (4, [], 0, x.1, x.2.length)) := by intro x hx; rw [hc] at hx ⊢; exact nxt_err h1 h2 h3 hx
 have HS : Hid (errT l = none → nxt l = sgR l) := by intro hx; rw [hc] at hx ⊢; exact nxt_sg h1 h2 h3 hx
 have HC : Hid (∃ r, l = s[k] :: r) := ⟨_, hc⟩
 have HD : Hid (s.data.toList.drop k = l) := hll
 have cI : ∀ t : ByteArray, t.size ≤ 10 → ∀ W, Calls Try.prog 110 #[.string s, .int .i64 (k : Int), .string t] W fun e w' => e = .returned (.bool (t.data.toList.isPrefixOf l)) ∧ w' = W := by
   intro t ht W
   have h := qis_any s t k W (Nat.le_of_lt hk) hs ht
   rwa [hll] at h
 have HI : Hid (∀ t : ByteArray, t.size ≤ 10 → ∀ W, Calls Try.prog 110 #[.string s, .int .i64 (k : Int), .string t] W fun e w' => e = .returned (.bool (t.data.toList.isPrefixOf l)) ∧ w' = W) := cI
 clear h1 h2 h3 b1 hK hl hll hc hn c1 c2 cI
 go_enter Try.func92, Try.ntmps92
 go_wp2_with fail
 refine (d1 _).mono ?_
 rintro e w1 ⟨rfl, rfl⟩
 go_wp2_with fail
 refine (d1 _).mono ?_
 rintro e w1 ⟨rfl, rfl⟩
 go_wp2_with fail
 go_loopw [8] (fun i wr => ∃ j : Nat, j ≤ 5 ∧ i = .int .i64 ((j + 1 : Nat) : Int) ∧ (errsL.take j).find? (fun x => x.2.isPrefixOf l) = none ∧ wr = w.alloc (.cells #[.int .i64 0, .int .i64 0, .string ⟨#[]⟩, .int .i64 0, .int .i64 0] 83)) (fun i _ => 6 - (intOf i).toNat)
 case atStart => exact ⟨0, by omega, rfl, rfl, rfl⟩
 case round =>
   obtain ⟨j, hj, rfl, hf, rfl⟩ := hrel
   have HF : Hid ((errsL.take j).find? (fun x => x.2.isPrefixOf l) = none) := hf
   clear hf
   by_cases hlt : j < 5
   · obtain ⟨x, hx⟩ : ∃ x, errsL[j]? = some x := ⟨_, List.getElem?_eq_getElem (by simp [errsL]; omega)⟩
     have e1 := fun W => qerrname_at j x hx W
     have HY : Hid (x.1 = (j : Int) + 1 ∧ (bs x.2).size ≤ 10) := by
       have hh : j = 0 ∨ j = 1 ∨ j = 2 ∨ j = 3 ∨ j = 4 := by omega
       rcases hh with rfl | rfl | rfl | rfl | rfl <;> (simp [errsL] at hx; subst hx; exact ⟨rfl, by decide⟩)
     have HX : Hid (errsL[j]? = some x) := hx
     have hxs : (bs x.2).size ≤ 10 := HY.out.2
     have HZ : Hid ((bs x.2).size = x.2.length) := bs_size _
     have e2 := fun W => HI.out (bs x.2) hxs W
     rw [bs_list] at e2
     obtain ⟨t, ht⟩ : ∃ t, x.2.isPrefixOf l = t := ⟨_, rfl⟩
     rw [ht] at e2
     have HT : Hid (x.2.isPrefixOf l = t) := ht
     clear hx ht
     generalize hb : bs x.2 = b at e1 e2 hxs HZ
     clear hb
     have hl1 : ((j + 1 : Nat) : Int) ≤ 5 := by omega
     cases t
     · go_wp2_with fail
       refine (e1 _).mono ?_
       rintro e w1 ⟨rfl, rfl⟩
       go_wp2_with fail
       refine (e2 _).mono ?_
       rintro e w1 ⟨rfl, rfl⟩
       go_wp2_with fail
       go_roundw
       case rel => exact ⟨j + 1, by omega, by go_num, find_on HF.out HX.out HT.out, trivial⟩
       case measure => simp [intOf]; omega
     · go_wp2_with fail
       refine (e1 _).mono ?_
       rintro e w1 ⟨rfl, rfl⟩
       go_wp2_with fail
       refine (e2 _).mono ?_
       rintro e w1 ⟨rfl, rfl⟩
       go_wp2_with fail
       refine (e1 _).mono ?_
       rintro e w1 ⟨rfl, rfl⟩
       go_wp2_with fail
       refine fin5 _ (blk5_top rfl (Ext.refl _)) rfl ((Ext.refl _).alloc _) (fun g0 g1 g2 g3 g4 => by simp [results, Try.results92, go_sem, g0, g1, g2, g3, g4]; rfl) (fun h => ⟨?_, h⟩)
       rw [HE.out x (by unfold errT; exact find_here HF.out HX.out HT.out), HY.out.1, ← HZ.out]
       exact rx_fin (4, [], 0, (j : Int) + 1, b.size) k _ (by simp)
   · have hl1 : ¬ ((j + 1 : Nat) : Int) ≤ 5 := by omega
     have HR : Hid (nxt l = sgR l) := HS.out (by unfold errT; exact find_end HF.out (by simp [errsL]; omega))
     have s1 := HI.out ⟨#[60, 62]⟩ (by decide)
     have s2 := HI.out ⟨#[60, 61]⟩ (by decide)
     have s3 := HI.out ⟨#[62, 61]⟩ (by decide)
     have ht2 : ∀ p, (p = [60, 62] ∨ p = [60, 61] ∨ p = [62, 61]) → List.isPrefixOf p l = true → k + 2 ≤ s.size := by
       intro p hp h
       have h4 := (List.isPrefixOf_iff_prefix.mp h).length_le
       have h5 := congrArg List.length HD.out
       rw [List.length_drop, size_list] at h5
       rcases hp with rfl | rfl | rfl <;> (simp at h4; omega)
     clear HE HS
     cases g1 : List.isPrefixOf [60, 62] l
     case true =>
       have HW : Hid (sgR l = .ok (3, l.take 2, 0, 0, 2)) := sg_two (.inl rfl) g1
       have hm : k + 2 ≤ s.size := ht2 _ (.inl rfl) g1
       replace s1 : ∀ W, Calls Try.prog 110 #[.string s, .int .i64 (k : Int), .string ⟨#[60, 62]⟩] W fun e w' => e = .returned (.bool true) ∧ w' = W := by intro W; have := s1 W; rwa [show (⟨#[60, 62]⟩ : ByteArray).data.toList = [60, 62] from rfl, g1] at this
       clear g1 ht2 s2 s3
       go_wp2_with fail
       refine (s1 _).mono ?_
       rintro e w1 ⟨rfl, rfl⟩
       go_wp2_with fail
       refine fin5 _ (blk5_top rfl (Ext.refl _)) rfl ((Ext.refl _).alloc _) (fun g0 g1 g2 g3 g4 => by simp [results, Try.results92, go_sem, g0, g1, g2, g3, g4]; rfl) (fun h => ⟨?_, h⟩)
       rw [HR.out, HW.out, sub_bs, HD.out]
       exact rx_fin (3, l.take 2, 0, 0, 2) k _ (by simp)
     replace s1 : ∀ W, Calls Try.prog 110 #[.string s, .int .i64 (k : Int), .string ⟨#[60, 62]⟩] W fun e w' => e = .returned (.bool false) ∧ w' = W := by intro W; have := s1 W; rwa [show (⟨#[60, 62]⟩ : ByteArray).data.toList = [60, 62] from rfl, g1] at this
     cases g2 : List.isPrefixOf [60, 61] l
     case true =>
       have HW : Hid (sgR l = .ok (3, l.take 2, 0, 0, 2)) := sg_two (.inr (.inl rfl)) g2
       have hm : k + 2 ≤ s.size := ht2 _ (.inr (.inl rfl)) g2
       replace s2 : ∀ W, Calls Try.prog 110 #[.string s, .int .i64 (k : Int), .string ⟨#[60, 61]⟩] W fun e w' => e = .returned (.bool true) ∧ w' = W := by intro W; have := s2 W; rwa [show (⟨#[60, 61]⟩ : ByteArray).data.toList = [60, 61] from rfl, g2] at this
       clear g1 g2 ht2 s3
       go_wp2_with fail
       refine (s1 _).mono ?_
       rintro e w1 ⟨rfl, rfl⟩
       go_wp2_with fail
       refine (s2 _).mono ?_
       rintro e w1 ⟨rfl, rfl⟩
       go_wp2_with fail
       refine fin5 _ (blk5_top rfl (Ext.refl _)) rfl ((Ext.refl _).alloc _) (fun g0 g1 g2 g3 g4 => by simp [results, Try.results92, go_sem, g0, g1, g2, g3, g4]; rfl) (fun h => ⟨?_, h⟩)
       rw [HR.out, HW.out, sub_bs, HD.out]
       exact rx_fin (3, l.take 2, 0, 0, 2) k _ (by simp)
     replace s2 : ∀ W, Calls Try.prog 110 #[.string s, .int .i64 (k : Int), .string ⟨#[60, 61]⟩] W fun e w' => e = .returned (.bool false) ∧ w' = W := by intro W; have := s2 W; rwa [show (⟨#[60, 61]⟩ : ByteArray).data.toList = [60, 61] from rfl, g2] at this
     cases g3 : List.isPrefixOf [62, 61] l
     case true =>
       have HW : Hid (sgR l = .ok (3, l.take 2, 0, 0, 2)) := sg_two (.inr (.inr rfl)) g3
       have hm : k + 2 ≤ s.size := ht2 _ (.inr (.inr rfl)) g3
       replace s3 : ∀ W, Calls Try.prog 110 #[.string s, .int .i64 (k : Int), .string ⟨#[62, 61]⟩] W fun e w' => e = .returned (.bool true) ∧ w' = W := by intro W; have := s3 W; rwa [show (⟨#[62, 61]⟩ : ByteArray).data.toList = [62, 61] from rfl, g3] at this
       clear g1 g2 g3 ht2
       go_wp2_with fail
       refine (s1 _).mono ?_
       rintro e w1 ⟨rfl, rfl⟩
       go_wp2_with fail
       refine (s2 _).mono ?_
       rintro e w1 ⟨rfl, rfl⟩
       go_wp2_with fail
       refine (s3 _).mono ?_
       rintro e w1 ⟨rfl, rfl⟩
       go_wp2_with fail
       refine fin5 _ (blk5_top rfl (Ext.refl _)) rfl ((Ext.refl _).alloc _) (fun g0 g1 g2 g3 g4 => by simp [results, Try.results92, go_sem, g0, g1, g2, g3, g4]; rfl) (fun h => ⟨?_, h⟩)
       rw [HR.out, HW.out, sub_bs, HD.out]
       exact rx_fin (3, l.take 2, 0, 0, 2) k _ (by simp)
     replace s3 : ∀ W, Calls Try.prog 110 #[.string s, .int .i64 (k : Int), .string ⟨#[62, 61]⟩] W fun e w' => e = .returned (.bool false) ∧ w' = W := by intro W; have := s3 W; rwa [show (⟨#[62, 61]⟩ : ByteArray).data.toList = [62, 61] from rfl, g3] at this
     have HW : Hid (sgR l = if s[k] ∈ sg12 then .ok (3, [s[k]], 0, 0, 1) else .error 4) := by
       obtain ⟨r, hr⟩ := HC.out
       rw [hr] at g1 g2 g3 ⊢
       exact sg_one g1 g2 g3
     have HO : Hid (bs [s[k]] = s.extract k (k + 1)) := by
       obtain ⟨r, hr⟩ := HC.out
       show _ = _; rw [sub_bs, HD.out, hr]; rfl
     clear g1 g2 g3 ht2
     go_wp2_with fail
     refine (s1 _).mono ?_
     rintro e w1 ⟨rfl, rfl⟩
     go_wp2_with fail
     refine (s2 _).mono ?_
     rintro e w1 ⟨rfl, rfl⟩
     go_wp2_with fail
     refine (s3 _).mono ?_
     rintro e w1 ⟨rfl, rfl⟩
     go_wp2_with fail
     go_loopw [9] (fun i wr => ∃ j : Nat, j ≤ 12 ∧ i = .int .i64 (j : Int) ∧ (∀ i (h : i < j) p, sg12[i]? = some p → s[k] ≠ p) ∧ Ext w wr ∧ Blk5 wr w.heap.size (.int .i64 0) (.int .i64 0) (.string ⟨#[]⟩) (.int .i64 0) (.int .i64 0)) (fun i _ => 12 - (intOf i).toNat)
     case atStart => exact ⟨0, by omega, rfl, fun i h => by omega, (Ext.refl _).alloc _, blk5_top rfl (Ext.refl _)⟩
     case round =>
       obtain ⟨i, hi, rfl, hf, hX, hB⟩ := hrel
       have HF2 : Hid (∀ m (h : m < i) p, sg12[m]? = some p → s[k] ≠ p) := hf
       have HX : Hid (Ext w wr) := hX
       have HB : Hid (Blk5 wr w.heap.size (.int .i64 0) (.int .i64 0) (.string ⟨#[]⟩) (.int .i64 0) (.int .i64 0)) := hB
       clear hf hX hB
       by_cases hlt2 : i < 12
       · have hl2 : (i : Int) < 12 := by omega
         obtain ⟨p, hp⟩ : ∃ p, sg12[i]? = some p := ⟨_, List.getElem?_eq_getElem (by simp [sg12]; omega)⟩
         have hix := fun W => sg12_at i p hp W
         have HP : Hid (sg12[i]? = some p) := hp
         clear hp
         have wk : wrap64 ((i : Int) + 1) = ((i + 1 : Nat) : Int) := by unfold wrap64; omega
         by_cases he : s[k] = p
         · have te : (((s[k]).toNat : Int) == (p.toNat : Int)) = true := by rw [he]; simp
           have HE : Hid (s[k] = p) := he
           clear he
           go_upto_region 20 with fail
           go_quiet (fail)
           have X3 : Ext w (wr.drewN nq) := HX.out.drewN _
           have B3 := HB.out.ext ((Ext.refl wr).drewN nq)
           have D3 := B3
           obtain ⟨_, ⟨b0, b1, b2, b3, b4⟩, f0, f1, f2, f3, f4⟩ := D3
           generalize wr.drewN nq = w3 at *
           go_wp2_with fail
           refine fin5 _ (B3.set _ _ _ _ _) rfl (by with_reducible repeat (first | assumption | exact Ext.refl _ | apply Ext.alloc | apply Ext.drewN | (refine Ext.setCell ?_ (by simp) _))) (fun g0 g1 g2 g3 g4 => by simp [results, Try.results92, go_sem, g0, g1, g2, g3, g4]; rfl) (fun h => ⟨?_, h⟩)
           rw [HR.out, HW.out, if_pos (by rw [HE.out]; exact List.mem_of_getElem? HP.out), ← HO.out]
           exact rx_fin (3, [s[k]], 0, 0, 1) k _ (by simp)
         · have te : (((s[k]).toNat : Int) == (p.toNat : Int)) = false := by
             simp; intro h; exact he (UInt8.toNat_inj.mp (by omega))
           have HE : Hid (s[k] ≠ p) := he
           clear he
           go_upto_region 20 with fail
           go_quiet (fail)
           go_wp2_with fail
           go_roundw
           case rel =>
             refine ⟨i + 1, by omega, by go_num, fun m h p' hp' => ?_, HX.out.drewN _, HB.out.ext ((Ext.refl wr).drewN _)⟩
             by_cases hm : m = i
             · subst hm
               have e := HP.out
               rw [hp'] at e
               cases e
               exact HE.out
             · exact HF2.out m (by omega) p' hp'
           case measure => simp [intOf]; omega
       · have hl2 : ¬ (i : Int) < 12 := by omega
         have B3 := HB.out
         have X3 := HX.out
         have D3 := B3
         obtain ⟨_, ⟨b0, b1, b2, b3, b4⟩, f0, f1, f2, f3, f4⟩ := D3
         go_wp2_with fail
         refine fin5 _ (B3.set _ _ _ _ _) rfl (by with_reducible repeat (first | assumption | exact Ext.refl _ | apply Ext.alloc | apply Ext.drewN | (refine Ext.setCell ?_ (by simp) _))) (fun g0 g1 g2 g3 g4 => by simp [results, Try.results92, go_sem, g0, g1, g2, g3, g4]; rfl) (fun h => ⟨?_, h⟩)
         have hno : s[k] ∉ sg12 := by
           intro hm
           obtain ⟨m, hm1, hm2⟩ := List.getElem_of_mem hm
           exact HF2.out m (by simp [sg12] at hm1; omega) s[k] (by rw [List.getElem?_eq_getElem hm1, hm2]) rfl
         rw [HR.out, HW.out, if_neg hno]
         exact rfl
end Go.Proofs.Ytcggiljlilbdfaa
