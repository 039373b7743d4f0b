/-
 A bar's list of what has come up, in another spelling. No program in sight.
 The document's Form and Alike of package rel.
 Package rel's Refs.
 The document's kinds of bytes, what stands at a place, digits and numbers.
-/
import Derived.Test.YtcggiljlilbdfaaR37
import Derived.Test.YtcggiljlilbdfaaR31
import Derived.Test.YtcggiljlilbdfaaR19
import Derived.Test.YtcggiljlilbdfaaR7
namespace Go.Proofs.Ytcggiljlilbdfaa
open Go

theorem bar_cast {P : Program} {ops : Array Oper} {Q : Exit → Act → World → Prop} {md : Region.Mode} {B : Nat → Bool} {S : World → Prop} {n : Nat} {l : Array Bool} {a : Act} {w : World} (l' : Array Bool) (hl : l = l') (h : wpBar P md ops Q B S n l' a w) : wpBar P md ops Q B S n l a w := hl ▸ h

open Go.RowKit
set_option maxHeartbeats 6000000
set_option maxRecDepth 100000 in
theorem rform_any (n : Nat) (t : T) (hr : Hr n t) (row col : Int) (W : World) (P : Nat → Prop) (pp : Option Addr) (ln cl : Nat) (hL : IsL W P (.slice pp ln cl) t.l) :
   Calls Try.prog 17 #[.agg #[.int .i64 t.k, .int .i64 t.n, .string (bs t.s), .int .i64 t.e, .int .i64 t.r.1, .int .i64 t.r.2.1, .bool t.r.2.2.1, .bool t.r.2.2.2, .int .i64 t.q.1, .int .i64 t.q.2.1, .bool t.q.2.2.1, .bool t.q.2.2.2, .slice pp ln cl], .int .i64 row, .int .i64 col] W (DcQ P W (mpT (mvE (wrap64 (-row)) (wrap64 (-col))) n t)) := by
 have HI : Hid (IsL W (fun k => P k ∧ k < W.heap.size) (.slice pp ln cl) t.l) := hL.mono (fun k hk hs => ⟨hk, hs⟩)
 have C1 := rback_any (wrap64 (-row)) (wrap64 (-col)) n t hr (fun k => P k ∧ k < W.heap.size) ((W.alloc (.cells #[.int .i64 t.k, .int .i64 t.n, .string (bs t.s), .int .i64 t.e, .int .i64 t.r.1, .int .i64 t.r.2.1, .bool t.r.2.2.1, .bool t.r.2.2.2, .int .i64 t.q.1, .int .i64 t.q.2.1, .bool t.q.2.2.1, .bool t.q.2.2.2, .slice pp ln cl] 26)).alloc (.cells #[.int .i64 0, .int .i64 0, .string ⟨#[]⟩, .int .i64 0, .int .i64 0, .int .i64 0, .bool false, .bool false, .int .i64 0, .int .i64 0, .bool false, .bool false, .slice none 0 0] 26)) pp ln cl (HI.out.ext (((Ext.refl _).alloc _).alloc _))
 clear hL hr
 go_enter Try.func17, Try.ntmps17
 go_wp2_with fail
 refine C1.mono ?_
 rintro e w1 ⟨p, l, c, rfl, L1, E1⟩
 obtain ⟨y, hy⟩ : ∃ y, mpT (mvE (wrap64 (-row)) (wrap64 (-col))) n t = y := ⟨_, rfl⟩
 have HY : Hid (mpT (mvE (wrap64 (-row)) (wrap64 (-col))) n t = y) := hy
 rw [hy] at L1 ⊢
 have HB : Hid (BlkX w1 (W.heap.size + 1) tz (.slice none 0 0) ∧ Ext W w1 ∧ IsL w1 (fun k => (P k ∧ k < W.heap.size) ∨ W.heap.size + 1 + 1 ≤ k) (.slice p l c) y.l) := ⟨(BlkX.top (by simp) (Ext.refl _)).ext E1, (((Ext.refl _).alloc _).alloc _).trans E1, L1.mono (fun k hk _ => by rcases hk with h | h; exact .inl h; exact .inr (by simp at h; omega))⟩
 have HB1 := HB.out.1
 obtain ⟨qc, ⟨lc0, lc1, lc2, lc3, lc4, lc5, lc6, lc7, lc8, lc9, lc10, lc11, lc12⟩, gc0, gc1, gc2, gc3, gc4, gc5, gc6, gc7, gc8, gc9, gc10, gc11, gc12⟩ := HB1
 clear E1 L1 C1 hy
 unfold aggX
 go_wp2_with fail
 show bodyPost Try.prog _ _ _ _ (putX w1 (W.heap.size + 1) y (.slice p l c))
 rw [HY.out]
 obtain ⟨hB9, hE9, hL9⟩ := HB.out
 have hq : DcQ P W y (.returned (aggX y (.slice p l c))) (putX w1 (W.heap.size + 1) y (.slice p l c)) := by
   refine ⟨p, l, c, rfl, ?_, putX_E hE9 (by omega) _ _⟩
   refine (putX_L hL9 (fun k hk => ?_)).mono (fun k hk _ => ?_)
   · have hk2 : (P k ∧ k < W.heap.size) ∨ W.heap.size + 1 + 1 ≤ k := hk
     omega
   · have hk2 : (P k ∧ k < W.heap.size) ∨ W.heap.size + 1 + 1 ≤ k := hk
     rcases hk2 with h | h
     · exact .inl h.1
     · exact .inr (by omega)
 exact endR (hB9.put y (.slice p l c)) rfl hq (fun h0 h1 h2 h3 h4 h5 h6 h7 h8 h9 h10 h11 h12 => by simp [results, Try.results17, go_sem, h0, h1, h2, h3, h4, h5, h6, h7, h8, h9, h10, h11, h12, aggX])

open Go.RowKit
set_option maxHeartbeats 6000000
set_option maxRecDepth 100000 in
theorem refs_any (n : Nat) (t : T) (hr : Hr n t) (hn : (refsT n t).length ≤ 100000) (W : World) (P : Nat → Prop) (pp : Option Addr) (ln cl : Nat) (hL : IsL W P (.slice pp ln cl) t.l) :
   Calls Try.prog 25 #[.agg #[.int .i64 t.k, .int .i64 t.n, .string (bs t.s), .int .i64 t.e, .int .i64 t.r.1, .int .i64 t.r.2.1, .bool t.r.2.2.1, .bool t.r.2.2.2, .int .i64 t.q.1, .int .i64 t.q.2.1, .bool t.q.2.2.1, .bool t.q.2.2.2, .slice pp ln cl]] W fun e w' => ∃ v, e = .returned v ∧ RdR w' v (refsT n t) ∧ Ext W w' := by
 have HC : Hid (∀ V R, VSt W R V [] → Calls Try.prog 53 #[.agg #[.int .i64 t.k, .int .i64 t.n, .string (bs t.s), .int .i64 t.e, .int .i64 t.r.1, .int .i64 t.r.2.1, .bool t.r.2.2.1, .bool t.r.2.2.2, .int .i64 t.q.1, .int .i64 t.q.2.1, .bool t.q.2.2.1, .bool t.q.2.2.2, .slice pp ln cl], .func (.func 54) #[] #[.pointer (some ⟨R, 0, none⟩)]] V fun e w' => e = .returned (.tuple #[]) ∧ VSt W R w' ([] ++ refsT n t)) := fun V R h => visit_any n t hr W R P pp ln cl V [] h hL (by simpa using hn)
 clear hr hn hL
 go_enter Try.func25, Try.ntmps25
 go_wp2_with fail
 refine (HC.out _ (W.heap.size + 1) ?_).mono ?_
 · refine ⟨((Ext.refl _).alloc _).alloc _, by omega, by simp, ⟨.slice none 0 0, ?_, OwR.nil _ _⟩, ?_⟩
   · have e9 : (W.alloc (.cells #[.int .i64 t.k, .int .i64 t.n, .string (bs t.s), .int .i64 t.e, .int .i64 t.r.1, .int .i64 t.r.2.1, .bool t.r.2.2.1, .bool t.r.2.2.2, .int .i64 t.q.1, .int .i64 t.q.2.1, .bool t.q.2.2.1, .bool t.q.2.2.2, .slice pp ln cl] 26)).heap.size = W.heap.size + 1 := by simp
     rw [← e9, cell_of_row _ _ _ _ _ (0, 0) (new_top _ _)]; rfl
   · simp [go_sem]
 rintro e w1 ⟨rfl, h1⟩
 rw [List.nil_append] at h1
 obtain ⟨h2, h3, h4, ⟨v, h5, h6⟩, h7⟩ := h1
 have HR : Hid (RdR w1 v (refsT n t) ∧ Ext W w1) := ⟨h6.rd, h2⟩
 obtain ⟨p, l, c, hv⟩ : ∃ p l c, v = .slice p l c := by
   rcases h6.2 with ⟨hv, _⟩ | ⟨g, cp, _, hv, _⟩
   · exact ⟨_, _, _, hv⟩
   · exact ⟨_, _, _, hv⟩
 subst hv
 clear h2 h3 h6 HC
 go_wp2_with fail
 go_ret
 exact ⟨_, rfl, HR.out.1, HR.out.2⟩

open Go.RowKit
set_option maxHeartbeats 1000000

def kindN (c : UInt8) : Int := if dgB c then 1 else if ltB c then 2 else 0
theorem qkind_any (c : UInt8) (w : World) : Calls Try.prog 107 #[.int .u8 (c.toNat : Int)] w fun e w' => e = .returned (.int .i64 (kindN c)) ∧ w' = w := by
 by_cases h1 : (48 : Int) ≤ c.toNat ∧ (c.toNat : Int) ≤ 57
 · have H : Hid (kindN c = 1) := by show _ = _; unfold kindN; rw [if_pos]; unfold dgB; simp; omega
   obtain ⟨g1, g2⟩ := h1
   go_enter Try.func107, Try.ntmps107
   go_wp2
   go_ret
   exact ⟨ret_int H.out.symm, rfl⟩
 have hd : dgB c = false := by unfold dgB; simp; omega
 by_cases h2 : (97 : Int) ≤ c.toNat ∧ (c.toNat : Int) ≤ 122
 · have H : Hid (kindN c = 2) := by show _ = _; unfold kindN; rw [hd, lt_yes (.inr h2)]; rfl
   obtain ⟨g1, g2⟩ := h2
   have g3 : (48 : Int) ≤ c.toNat := by omega
   have g4 : ¬ (c.toNat : Int) ≤ 57 := by omega
   clear h1 hd
   go_enter Try.func107, Try.ntmps107
   go_wp2
   go_ret
   exact ⟨ret_int H.out.symm, rfl⟩
 by_cases h3 : (65 : Int) ≤ c.toNat ∧ (c.toNat : Int) ≤ 90
 · have H : Hid (kindN c = 2) := by show _ = _; unfold kindN; rw [hd, lt_yes (.inl h3)]; rfl
   obtain ⟨g1, g2⟩ := h3
   have g3 : (48 : Int) ≤ c.toNat := by omega
   have g4 : ¬ (c.toNat : Int) ≤ 57 := by omega
   have g5 : ¬ (97 : Int) ≤ c.toNat := by omega
   clear h1 h2 hd
   go_enter Try.func107, Try.ntmps107
   go_wp2
   go_ret
   exact ⟨ret_int H.out.symm, rfl⟩
 have hl := lt_no h3 h2
 by_cases h4 : (c.toNat : Int) = 36
 · have H : Hid (kindN c = 2) := by show _ = _; unfold kindN; rw [hd, hl, h4]; rfl
   clear h1 h2 h3 hd hl
   rw [h4]
   go_enter Try.func107, Try.ntmps107
   go_wp2
   go_ret
   exact ⟨ret_int H.out.symm, rfl⟩
 · have t4 : ((c.toNat : Int) == 36) = false := by simpa using h4
   have H : Hid (kindN c = 0) := by show _ = _; unfold kindN; rw [hd, hl, t4]; rfl
   clear hd hl
   by_cases g1 : (48 : Int) ≤ c.toNat
   · have g2 : ¬ (c.toNat : Int) ≤ 57 := by omega
     by_cases g3 : (97 : Int) ≤ c.toNat
     · have g4 : ¬ (c.toNat : Int) ≤ 122 := by omega
       have g5 : (65 : Int) ≤ c.toNat := by omega
       have g6 : ¬ (c.toNat : Int) ≤ 90 := by omega
       clear h1 h2 h3
       go_enter Try.func107, Try.ntmps107
       go_wp2
       go_ret
       exact ⟨ret_int H.out.symm, rfl⟩
     · by_cases g5 : (65 : Int) ≤ c.toNat
       · have g6 : ¬ (c.toNat : Int) ≤ 90 := by omega
         clear h1 h2 h3
         go_enter Try.func107, Try.ntmps107
         go_wp2
         go_ret
         exact ⟨ret_int H.out.symm, rfl⟩
       · clear h1 h2 h3
         go_enter Try.func107, Try.ntmps107
         go_wp2
         go_ret
         exact ⟨ret_int H.out.symm, rfl⟩
   · have g3 : ¬ (97 : Int) ≤ c.toNat := by omega
     have g5 : ¬ (65 : Int) ≤ c.toNat := by omega
     clear h1 h2 h3
     go_enter Try.func107, Try.ntmps107
     go_wp2
     go_ret
     exact ⟨ret_int H.out.symm, rfl⟩

theorem pre_takew (p l : List UInt8) : p.isPrefixOf l = (decide (p.length ≤ l.length) && (l.take p.length == p)) := by
 rw [Bool.eq_iff_iff, List.isPrefixOf_iff_prefix, List.prefix_iff_eq_take]
 simp
 constructor
 · intro h; exact ⟨by have := congrArg List.length h; simp at this; omega, h.symm⟩
 · intro h; exact h.2.symm
theorem qis_any (s t : ByteArray) (k : Nat) (w : World) (hk : k ≤ s.size) (hs : s.size ≤ 300) (ht : t.size ≤ 10) :
   Calls Try.prog 110 #[.string s, .int .i64 (k : Int), .string t] w fun e w' => e = .returned (.bool (t.data.toList.isPrefixOf (s.data.toList.drop k))) ∧ w' = w := by
 have hl := size_list s
 have hlt := size_list t
 have hp := pre_takew t.data.toList (s.data.toList.drop k)
 by_cases h : k + t.size ≤ s.size
 · have hI : (k : Int) + (t.size : Int) ≤ (s.size : Int) := by omega
   have e1 : (s.extract k (k + t.size)).toList = (s.data.toList.drop k).take t.data.toList.length := by
     rw [sub_bs, ByteArray.toList_eq, hlt]; rfl
   have H : Hid (t.data.toList.isPrefixOf (s.data.toList.drop k) = ((s.extract k (k + t.size)).toList == t.toList)) := by
     show _ = _
     rw [hp, e1, ByteArray.toList_eq, decide_eq_true (by simp; omega)]; rfl
   obtain ⟨m, hm⟩ : ∃ m, k + t.size = m := ⟨_, rfl⟩
   have m0 : (k : Int) + (t.size : Int) = (m : Int) := by omega
   have m1 : k ≤ m := by omega
   have m2 : m ≤ s.size := by omega
   rw [hm] at H
   clear hp e1 hl hlt h hm hI
   have hI : (m : Int) ≤ (s.size : Int) := by omega
   rw [H.out]
   go_enter Try.func110, Try.ntmps110
   go_wp2
   go_ret
   exact ⟨rfl, rfl⟩
 · have hI : ¬ (k : Int) + (t.size : Int) ≤ (s.size : Int) := by omega
   have H : Hid (t.data.toList.isPrefixOf (s.data.toList.drop k) = false) := by
     show _ = _
     rw [hp, decide_eq_false (by simp; omega)]; rfl
   clear hp hl hlt h
   rw [H.out]
   go_enter Try.func110, Try.ntmps110
   go_wp2
   go_ret
   exact ⟨rfl, rfl⟩
theorem kind_one (c : UInt8) : (kindN c == 1) = dgB c := by
 unfold kindN; cases dgB c
 · cases ltB c <;> rfl
 · rfl
theorem qdigits_any (s : ByteArray) (k : Nat) (w : World) (hk : k ≤ s.size) (hs : s.size ≤ 300) :
   Calls Try.prog 119 #[.string s, .int .i64 (k : Int)] w fun e w' => e = .returned (.int .i64 ((k + run dgB (s.data.toList.drop k) : Nat) : Int)) ∧ w' = w := by
 have hl := size_list s
 have HS : Hid (s.data.toList.length = s.size) := hl
 clear hl
 go_enter Try.func119, Try.ntmps119
 go_wp2
 go_loop [1] (fun i => ∃ j : Nat, j ≤ s.size ∧ i = .int .i64 j ∧ k + run dgB (s.data.toList.drop k) = j + run dgB (s.data.toList.drop j)) (fun i => s.size - (intOf i).toNat)
 case atStart => exact ⟨k, hk, rfl, rfl⟩
 case round =>
   obtain ⟨j, hj, rfl, ha⟩ := hrel
   have HA : Hid (k + run dgB (s.data.toList.drop k) = j + run dgB (s.data.toList.drop j)) := ha
   clear ha hk
   by_cases hlt : j < s.size
   · have HT : Hid (run dgB (s.data.toList.drop j) = if dgB s[j] then run dgB (s.data.toList.drop (j + 1)) + 1 else 0) := run_at dgB s.data.toList j (by have := HS.out; omega)
     have c1 := fun W => qkind_any s[j] W
     have k1 := kind_one s[j]
     cases hp : dgB s[j]
     · rw [hp] at k1
       have HP : Hid (dgB s[j] = false) := hp
       clear hp
       go_wp2_with fail
       refine (c1 _).mono ?_
       rintro e w1 ⟨rfl, rfl⟩
       go_wp2_with fail
       go_ret
       refine ⟨ret_int ?_, rfl⟩
       rw [HA.out, HT.out, HP.out]; simp
     · rw [hp] at k1
       have HP : Hid (dgB s[j] = true) := hp
       clear hp
       go_wp2_with fail
       refine (c1 _).mono ?_
       rintro e w1 ⟨rfl, rfl⟩
       go_wp2_with fail
       go_round
       case rel => exact ⟨j + 1, by omega, by go_num, by rw [HA.out, HT.out, HP.out]; simp; omega⟩
       case measure => simp [intOf]; omega
   · have HT : Hid (run dgB (s.data.toList.drop j) = 0) := run_off dgB s.data.toList j (by have := HS.out; omega)
     go_wp2_with fail
     go_ret
     refine ⟨ret_int ?_, rfl⟩
     have h1 := HA.out
     have h2 := HT.out
     omega

/-- How the document answers a word that begins at a place. -/
def RxR (r : Except Int Wd) (k : Nat) (e : Ending) : Prop :=
 match r with
 | .ok x => e = .returned (.tuple #[.agg #[.int .i64 x.1, .int .i64 (k : Int), .string (bs x.2.1), .int .i64 x.2.2.1, .int .i64 x.2.2.2.1], .int .i64 ((k + x.2.2.2.2 : Nat) : Int), .int .i64 0])
 | .error c => e = .returned (.tuple #[.agg #[.int .i64 0, .int .i64 0, .string ⟨#[]⟩, .int .i64 0, .int .i64 0], .int .i64 (k : Int), .int .i64 c])
theorem rx_fin (x : Wd) (k : Nat) (i : Int) (hi : i = ((k + x.2.2.2.2 : Nat) : Int)) :
   RxR (.ok x) k (.returned (.tuple #[.agg #[.int .i64 x.1, .int .i64 (k : Int), .string (bs x.2.1), .int .i64 x.2.2.1, .int .i64 x.2.2.2.1], .int .i64 i, .int .i64 0])) := by subst hi; rfl

theorem qnumber_any (s : ByteArray) (k : Nat) (w : World) (hk : k ≤ s.size) (hs : s.size ≤ 300) :
   Calls Try.prog 108 #[.string s, .int .i64 (k : Int)] w fun e w' => RxR (numR (s.data.toList.drop k)) k e ∧ Ext w w' := by
 have hl := size_list s
 obtain ⟨l, hll⟩ : ∃ l, s.data.toList.drop k = l := ⟨_, rfl⟩
 have hlen : l.length = s.size - k := by rw [← hll]; simp [hl]
 have c1 := fun W => qdigits_any s k W hk hs
 have hr := runL_le dgB l
 rw [hll] at c1 ⊢
 have hn := numE_le l
 have hng := numE_ge l
 obtain ⟨m, hm⟩ : ∃ m, k + numE l = m := ⟨_, rfl⟩
 have m1 : k ≤ m := by omega
 have m2 : m ≤ s.size := by omega
 obtain ⟨q, hq⟩ : ∃ q, s.extract k m = q := ⟨_, rfl⟩
 have hqs : q.size ≤ 300 := by rw [← hq, ByteArray.size_extract]; omega
 have hqq : q.data.toList = l.take (numE l) := by rw [← hq, ← hm, sub_bs, hll]; rfl
 have c3 := fun W => rparse_any q W (by unfold maxLen; omega)
 rw [hqq] at c3
 have H0 : Hid (rdK (l.take (numE l)) = 0 → numR l = .error 4) := numR_0
 have H2 : Hid (rdK (l.take (numE l)) = 2 → numR l = .error 2) := numR_2
 have H1 : Hid (rdK (l.take (numE l)) = 1 → numR l = .ok (0, [], rdV (l.take (numE l)), 0, numE l)) := numR_1
 have HM : Hid (k + numE l = m) := hm
 have HK : Hid (rdK (l.take (numE l)) = 0 ∨ rdK (l.take (numE l)) = 1 ∨ rdK (l.take (numE l)) = 2) := rdK_three _
 obtain ⟨K, hK⟩ : ∃ K, rdK (l.take (numE l)) = K := ⟨_, rfl⟩
 obtain ⟨V, hV⟩ : ∃ V, rdV (l.take (numE l)) = V := ⟨_, rfl⟩
 rw [hK] at c3 H0 H1 H2 HK
 rw [hV] at c3 H1
 obtain ⟨n1, hn1⟩ : ∃ n1, run dgB l = n1 := ⟨_, rfl⟩
 obtain ⟨e1, he1⟩ : ∃ e1, k + n1 = e1 := ⟨_, rfl⟩
 rw [hn1] at c1 hr hng
 rw [he1] at c1
 have e1a : k ≤ e1 := by omega
 have e1b : e1 ≤ s.size := by omega
 have hdr : s.data.toList.drop e1 = l.drop n1 := by rw [← hll, List.drop_drop]; congr 1; omega
 have c2 := fun W => qis_any s ⟨#[46]⟩ e1 W e1b hs (by decide)
 rw [hdr] at c2
 have hdot : ((⟨#[46]⟩ : ByteArray).data.toList.isPrefixOf (l.drop n1)) = decide (l[n1]? = some 46) := by
   show List.isPrefixOf [46] (l.drop n1) = _
   rw [Bool.eq_iff_iff]
   rw [← List.head?_drop]
   cases l.drop n1 with
   | nil => simp
   | cons c r => simp [List.isPrefixOf]; exact eq_comm
 rw [hdot] at c2
 have hE : numE l = if l[n1]? = some 46 ∧ 0 < run dgB (l.drop (n1 + 1)) then n1 + 1 + run dgB (l.drop (n1 + 1)) else n1 := by unfold numE; rw [hn1]
 have wk : wrap64 ((e1 : Int) + 1) = ((e1 + 1 : Nat) : Int) := by unfold wrap64; omega
 by_cases h1 : l[n1]? = some 46
 · rw [decide_eq_true h1] at c2
   have hb : e1 + 1 ≤ s.size := by have := (List.getElem?_eq_some_iff.mp h1).1; clear hE wk hdot; omega
   have c4 := fun W => qdigits_any s (e1 + 1) W hb hs
   have hdd : s.data.toList.drop (e1 + 1) = l.drop (n1 + 1) := by rw [← hll, List.drop_drop]; congr 1; omega
   rw [hdd] at c4
   by_cases h2 : 0 < run dgB (l.drop (n1 + 1))
   · rw [if_pos ⟨h1, h2⟩] at hE
     have hme : e1 + 1 + run dgB (l.drop (n1 + 1)) = m := by omega
     rw [hme] at c4
     have g1 : (e1 : Int) + 1 < (m : Int) := by omega
     clear h1 h2 hdd hme hb
     clear hr hn hng hm hqq hK hV hn1 he1 hE hlen hl hll hk hdr hdot
     go_enter Try.func108, Try.ntmps108
     rcases HK.out with k0 | k0 | k0
     · subst k0
       have R0 : Hid (numR l = .error 4) := H0.out rfl
       clear H0 H1 H2 HK
       go_wp2_with fail
       refine (c1 _).mono ?_
       rintro e w1 ⟨rfl, rfl⟩
       go_wp2_with fail
       refine (c2 _).mono ?_
       rintro e w2 ⟨rfl, rfl⟩
       go_wp2_with fail
       refine (c4 _).mono ?_
       rintro e w2 ⟨rfl, rfl⟩
       go_wp2_with fail
       refine (c4 _).mono ?_
       rintro e w2 ⟨rfl, rfl⟩
       go_wp2_with fail
       refine (c3 _).mono ?_
       rintro e w3 ⟨rfl, E3⟩
       have B3 := blk5_top rfl E3
       have X3 := ((Ext.refl w).alloc _).trans E3
       have D3 := B3
       obtain ⟨_, ⟨b0, b1, b2, b3, b4⟩, f0, f1, f2, f3, f4⟩ := D3
       clear E3
       go_wp2_with fail
       refine fin5 _ (B3.set _ _ _ _ _) rfl (by with_reducible repeat (first | assumption | exact Ext.refl _ | apply Ext.alloc | apply Ext.drewN | (refine Ext.setCell ?_ (by simp) _))) (fun g0 g1 g2 g3 g4 => by simp [results, Try.results108, go_sem, g0, g1, g2, g3, g4]; rfl) (fun h => ⟨?_, h⟩)
       rw [R0.out]
       exact rfl
     · subst k0
       have R0 : Hid (numR l = .ok (0, [], V, 0, numE l)) := H1.out rfl
       clear H0 H1 H2 HK
       go_wp2_with fail
       refine (c1 _).mono ?_
       rintro e w1 ⟨rfl, rfl⟩
       go_wp2_with fail
       refine (c2 _).mono ?_
       rintro e w2 ⟨rfl, rfl⟩
       go_wp2_with fail
       refine (c4 _).mono ?_
       rintro e w2 ⟨rfl, rfl⟩
       go_wp2_with fail
       refine (c4 _).mono ?_
       rintro e w2 ⟨rfl, rfl⟩
       go_wp2_with fail
       refine (c3 _).mono ?_
       rintro e w3 ⟨rfl, E3⟩
       have B3 := blk5_top rfl E3
       have X3 := ((Ext.refl w).alloc _).trans E3
       have D3 := B3
       obtain ⟨_, ⟨b0, b1, b2, b3, b4⟩, f0, f1, f2, f3, f4⟩ := D3
       clear E3
       go_wp2_with fail
       refine fin5 _ (B3.set _ _ _ _ _) rfl (by with_reducible repeat (first | assumption | exact Ext.refl _ | apply Ext.alloc | apply Ext.drewN | (refine Ext.setCell ?_ (by simp) _))) (fun g0 g1 g2 g3 g4 => by simp [results, Try.results108, go_sem, g0, g1, g2, g3, g4]; rfl) (fun h => ⟨?_, h⟩)
       rw [R0.out]
       exact rx_fin (0, [], V, 0, numE l) k _ (by rw [HM.out])
     · subst k0
       have R0 : Hid (numR l = .error 2) := H2.out rfl
       clear H0 H1 H2 HK
       go_wp2_with fail
       refine (c1 _).mono ?_
       rintro e w1 ⟨rfl, rfl⟩
       go_wp2_with fail
       refine (c2 _).mono ?_
       rintro e w2 ⟨rfl, rfl⟩
       go_wp2_with fail
       refine (c4 _).mono ?_
       rintro e w2 ⟨rfl, rfl⟩
       go_wp2_with fail
       refine (c4 _).mono ?_
       rintro e w2 ⟨rfl, rfl⟩
       go_wp2_with fail
       refine (c3 _).mono ?_
       rintro e w3 ⟨rfl, E3⟩
       have B3 := blk5_top rfl E3
       have X3 := ((Ext.refl w).alloc _).trans E3
       have D3 := B3
       obtain ⟨_, ⟨b0, b1, b2, b3, b4⟩, f0, f1, f2, f3, f4⟩ := D3
       clear E3
       go_wp2_with fail
       refine fin5 _ (B3.set _ _ _ _ _) rfl (by with_reducible repeat (first | assumption | exact Ext.refl _ | apply Ext.alloc | apply Ext.drewN | (refine Ext.setCell ?_ (by simp) _))) (fun g0 g1 g2 g3 g4 => by simp [results, Try.results108, go_sem, g0, g1, g2, g3, g4]; rfl) (fun h => ⟨?_, h⟩)
       rw [R0.out]
       exact rfl
   · rw [if_neg (fun h => h2 h.2)] at hE
     have hme : m = e1 := by omega
     have hme2 : e1 + 1 + run dgB (l.drop (n1 + 1)) = e1 + 1 := by omega
     rw [hme2] at c4
     subst hme
     have g1 : ¬ (m : Int) + 1 < (m : Int) + 1 := by omega
     clear h1 h2 hdd hme2 hb
     clear hr hn hng hm hqq hK hV hn1 hE hlen hl hll hk hdr hdot
     go_enter Try.func108, Try.ntmps108
     rcases HK.out with k0 | k0 | k0
     · subst k0
       have R0 : Hid (numR l = .error 4) := H0.out rfl
       clear H0 H1 H2 HK
       go_wp2_with fail
       refine (c1 _).mono ?_
       rintro e w1 ⟨rfl, rfl⟩
       go_wp2_with fail
       refine (c2 _).mono ?_
       rintro e w2 ⟨rfl, rfl⟩
       go_wp2_with fail
       refine (c4 _).mono ?_
       rintro e w2 ⟨rfl, rfl⟩
       go_wp2_with fail
       refine (c3 _).mono ?_
       rintro e w3 ⟨rfl, E3⟩
       have B3 := blk5_top rfl E3
       have X3 := ((Ext.refl w).alloc _).trans E3
       have D3 := B3
       obtain ⟨_, ⟨b0, b1, b2, b3, b4⟩, f0, f1, f2, f3, f4⟩ := D3
       clear E3
       go_wp2_with fail
       refine fin5 _ (B3.set _ _ _ _ _) rfl (by with_reducible repeat (first | assumption | exact Ext.refl _ | apply Ext.alloc | apply Ext.drewN | (refine Ext.setCell ?_ (by simp) _))) (fun g0 g1 g2 g3 g4 => by simp [results, Try.results108, go_sem, g0, g1, g2, g3, g4]; rfl) (fun h => ⟨?_, h⟩)
       rw [R0.out]
       exact rfl
     · subst k0
       have R0 : Hid (numR l = .ok (0, [], V, 0, numE l)) := H1.out rfl
       clear H0 H1 H2 HK
       go_wp2_with fail
       refine (c1 _).mono ?_
       rintro e w1 ⟨rfl, rfl⟩
       go_wp2_with fail
       refine (c2 _).mono ?_
       rintro e w2 ⟨rfl, rfl⟩
       go_wp2_with fail
       refine (c4 _).mono ?_
       rintro e w2 ⟨rfl, rfl⟩
       go_wp2_with fail
       refine (c3 _).mono ?_
       rintro e w3 ⟨rfl, E3⟩
       have B3 := blk5_top rfl E3
       have X3 := ((Ext.refl w).alloc _).trans E3
       have D3 := B3
       obtain ⟨_, ⟨b0, b1, b2, b3, b4⟩, f0, f1, f2, f3, f4⟩ := D3
       clear E3
       go_wp2_with fail
       refine fin5 _ (B3.set _ _ _ _ _) rfl (by with_reducible repeat (first | assumption | exact Ext.refl _ | apply Ext.alloc | apply Ext.drewN | (refine Ext.setCell ?_ (by simp) _))) (fun g0 g1 g2 g3 g4 => by simp [results, Try.results108, go_sem, g0, g1, g2, g3, g4]; rfl) (fun h => ⟨?_, h⟩)
       rw [R0.out]
       exact rx_fin (0, [], V, 0, numE l) k _ (by rw [HM.out])
     · subst k0
       have R0 : Hid (numR l = .error 2) := H2.out rfl
       clear H0 H1 H2 HK
       go_wp2_with fail
       refine (c1 _).mono ?_
       rintro e w1 ⟨rfl, rfl⟩
       go_wp2_with fail
       refine (c2 _).mono ?_
       rintro e w2 ⟨rfl, rfl⟩
       go_wp2_with fail
       refine (c4 _).mono ?_
       rintro e w2 ⟨rfl, rfl⟩
       go_wp2_with fail
       refine (c3 _).mono ?_
       rintro e w3 ⟨rfl, E3⟩
       have B3 := blk5_top rfl E3
       have X3 := ((Ext.refl w).alloc _).trans E3
       have D3 := B3
       obtain ⟨_, ⟨b0, b1, b2, b3, b4⟩, f0, f1, f2, f3, f4⟩ := D3
       clear E3
       go_wp2_with fail
       refine fin5 _ (B3.set _ _ _ _ _) rfl (by with_reducible repeat (first | assumption | exact Ext.refl _ | apply Ext.alloc | apply Ext.drewN | (refine Ext.setCell ?_ (by simp) _))) (fun g0 g1 g2 g3 g4 => by simp [results, Try.results108, go_sem, g0, g1, g2, g3, g4]; rfl) (fun h => ⟨?_, h⟩)
       rw [R0.out]
       exact rfl
 · rw [decide_eq_false h1] at c2
   rw [if_neg (fun h => h1 h.1)] at hE
   have hme : m = e1 := by omega
   subst hme
   clear h1
   clear hr hn hng hm hqq hK hV hn1 hE hlen hl hll hk hdr hdot
   go_enter Try.func108, Try.ntmps108
   rcases HK.out with k0 | k0 | k0
   · subst k0
     have R0 : Hid (numR l = .error 4) := H0.out rfl
     clear H0 H1 H2 HK
     go_wp2_with fail
     refine (c1 _).mono ?_
     rintro e w1 ⟨rfl, rfl⟩
     go_wp2_with fail
     refine (c2 _).mono ?_
     rintro e w2 ⟨rfl, rfl⟩
     go_wp2_with fail
     refine (c3 _).mono ?_
     rintro e w3 ⟨rfl, E3⟩
     have B3 := blk5_top rfl E3
     have X3 := ((Ext.refl w).alloc _).trans E3
     have D3 := B3
     obtain ⟨_, ⟨b0, b1, b2, b3, b4⟩, f0, f1, f2, f3, f4⟩ := D3
     clear E3
     go_wp2_with fail
     refine fin5 _ (B3.set _ _ _ _ _) rfl (by with_reducible repeat (first | assumption | exact Ext.refl _ | apply Ext.alloc | apply Ext.drewN | (refine Ext.setCell ?_ (by simp) _))) (fun g0 g1 g2 g3 g4 => by simp [results, Try.results108, go_sem, g0, g1, g2, g3, g4]; rfl) (fun h => ⟨?_, h⟩)
     rw [R0.out]
     exact rfl
   · subst k0
     have R0 : Hid (numR l = .ok (0, [], V, 0, numE l)) := H1.out rfl
     clear H0 H1 H2 HK
     go_wp2_with fail
     refine (c1 _).mono ?_
     rintro e w1 ⟨rfl, rfl⟩
     go_wp2_with fail
     refine (c2 _).mono ?_
     rintro e w2 ⟨rfl, rfl⟩
     go_wp2_with fail
     refine (c3 _).mono ?_
     rintro e w3 ⟨rfl, E3⟩
     have B3 := blk5_top rfl E3
     have X3 := ((Ext.refl w).alloc _).trans E3
     have D3 := B3
     obtain ⟨_, ⟨b0, b1, b2, b3, b4⟩, f0, f1, f2, f3, f4⟩ := D3
     clear E3
     go_wp2_with fail
     refine fin5 _ (B3.set _ _ _ _ _) rfl (by with_reducible repeat (first | assumption | exact Ext.refl _ | apply Ext.alloc | apply Ext.drewN | (refine Ext.setCell ?_ (by simp) _))) (fun g0 g1 g2 g3 g4 => by simp [results, Try.results108, go_sem, g0, g1, g2, g3, g4]; rfl) (fun h => ⟨?_, h⟩)
     rw [R0.out]
     exact rx_fin (0, [], V, 0, numE l) k _ (by rw [HM.out])
   · subst k0
     have R0 : Hid (numR l = .error 2) := H2.out rfl
     clear H0 H1 H2 HK
     go_wp2_with fail
     refine (c1 _).mono ?_
     rintro e w1 ⟨rfl, rfl⟩
     go_wp2_with fail
     refine (c2 _).mono ?_
     rintro e w2 ⟨rfl, rfl⟩
     go_wp2_with fail
     refine (c3 _).mono ?_
     rintro e w3 ⟨rfl, E3⟩
     have B3 := blk5_top rfl E3
     have X3 := ((Ext.refl w).alloc _).trans E3
     have D3 := B3
     obtain ⟨_, ⟨b0, b1, b2, b3, b4⟩, f0, f1, f2, f3, f4⟩ := D3
     clear E3
     go_wp2_with fail
     refine fin5 _ (B3.set _ _ _ _ _) rfl (by with_reducible repeat (first | assumption | exact Ext.refl _ | apply Ext.alloc | apply Ext.drewN | (refine Ext.setCell ?_ (by simp) _))) (fun g0 g1 g2 g3 g4 => by simp [results, Try.results108, go_sem, g0, g1, g2, g3, g4]; rfl) (fun h => ⟨?_, h⟩)
     rw [R0.out]
     exact rfl
end Go.Proofs.Ytcggiljlilbdfaa
