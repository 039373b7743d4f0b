/-
 The document's Words.
 The document's Formula, of any text.
 From a list that lays the library's tables, the errors' names and the signs to their cells; a world in which they lie. No condition.
-/
import Derived.Test.YtcggiljlilbdfaaGreatDoorQ42
import Derived.Test.YtcggiljlilbdfaaGreatDoorQ28
import Derived.Test.YtcggiljlilbdfaaGreatDoorQ41
import Derived.Test.YtcggiljlilbdfaaGreatDoorQ29
import Derived.Test.YtcggiljlilbdfaaGreatDoorQ10
import Derived.Test.YtcggiljlilbdfaaGreatDoorQ4
import Derived.Test.YtcggiljlilbdfaaGreatDoorRows
import Derived.Test.YtcggiljlilbdfaaGreatDoorQ31
import Derived.Shelf.Vars
import Derived.ProofKit
import Derived.OpenShut
import Derived.Deep.DeepHandedRow
import Derived.Stop.LaidErr
import Derived.Lib.LaidTab
import Derived.Lib.SmallJoins
import Derived.MakeChecks
namespace Go.Proofs.YtcggiljlilbdfaaGreatDoor
open Go.RowKit
set_option maxHeartbeats 1000000

theorem owt_new (W : World) (base : Nat) (h : base ≤ W.heap.size) : OwT (W.alloc (.cells #[] 45)) base (.slice (some ⟨W.heap.size, 0, none⟩) 0 0) [] :=
 World.ownsRow_made W #[] 0 h (by unfold maxLen; omega) (by simp)
theorem W_spz (l : List UInt8) (j : Nat) (h : j < l.length) (hc : l[j] = 32) : W j (l.drop j) = W (j + 1) (l.drop (j + 1)) := by
 rw [List.drop_eq_getElem_cons h, hc, W_blank]
theorem qwords_any (s : ByteArray) (w : World) (hs : s.size ≤ maxLen) :
   Calls Tryz.prog 10 #[.string s] w (WordsQ w s.data.toList) := by
 unfold maxLen at hs
 have hl := size_list s
 by_cases h : 300 < s.size
 · have hI : (300 : Int) < (s.size : Int) := by omega
   have HX : Hid (lexR s.data.toList = ([], 0, 2)) := by show _ = _; unfold lexR; rw [if_pos (by omega)]
   go_enter Tryz.func10, Tryz.ntmps10
   go_wp2_with fail
   go_ret3
   unfold WordsQ
   rw [HX.out]
   exact ⟨_, rfl, RdT.nil _, Ext.refl _⟩
 have hI : ¬ (300 : Int) < (s.size : Int) := by omega
 have hs3 : s.size ≤ 300 := by omega
 obtain ⟨l, hll⟩ : ∃ l, s.data.toList = l := ⟨_, rfl⟩
 have HL : Hid (l.length = s.size) := by show _ = _; rw [← hll]; exact hl
 have HG : Hid (∀ i (h : i < s.size) (h' : i < l.length), l[i] = s[i]) := by intro i h h'; subst hll; rfl
 have cN := fun k W h => qword_any s k W h hs3
 have HN : Hid (∀ k W (h : k < s.size), Calls Tryz.prog 20 #[.string s, .int .i64 (k : Int)] W fun e w' => RxR (nxt (l.drop k)) k e ∧ Ext W w') := by intro k W h; have := cN k W h; rwa [hll] at this
 have HR : Hid (∀ ts, W 0 l = .ok ts → lexR l = (ts, 0, 0)) := by intro ts h; unfold lexR; rw [if_neg (by rw [← hll]; omega), h]
 have HF : Hid (∀ p c, W 0 l = .error (p, c) → lexR l = ([], (p : Int), c)) := by intro p c h; unfold lexR; rw [if_neg (by rw [← hll]; omega), h]
 rw [hll]
 clear hl hll cN h hs
 go_enter Tryz.func10, Tryz.ntmps10
 go_wp2_with fail
 go_loopw [5, 6] (fun v x wr => ∃ (j : Nat) (acc : List Tk), x = .int .i64 (j : Int) ∧ j ≤ s.size ∧ W 0 l = (W j (l.drop j)).map (fun ts => acc ++ ts) ∧ acc.length ≤ j ∧ OwT wr w.heap.size v acc ∧ Ext w wr) (fun _ x _ => s.size - (intOf x).toNat)
 case atStart => exact ⟨0, [], rfl, Nat.zero_le _, map_nil _, Nat.le_refl _, owt_new w _ (Nat.le_refl _), (Ext.refl _).alloc _⟩
 case round =>
   obtain ⟨j, acc, rfl, hj, hW, ha, hO, hE⟩ := hrel
   have HW : Hid (W 0 l = (W j (l.drop j)).map (fun ts => acc ++ ts)) := hW
   have HA : Hid (acc.length ≤ j) := ha
   have HO : Hid (OwT wr w.heap.size u5 acc ∧ Ext w wr) := ⟨hO, hE⟩
   clear hW ha hO hE
   by_cases hlt : j < s.size
   · have hltI : (j : Int) < (s.size : Int) := by omega
     have wk : wrap64 ((j : Int) + 1) = ((j + 1 : Nat) : Int) := by unfold wrap64; omega
     have hb := byte_ne (c := s[j]) 32 (by omega)
     by_cases h1 : s[j] = 32
     · have tb : (((s[j]).toNat : Int) == 32) = true := by rw [show (32 : Int) = ((32 : Nat) : Int) from rfl, hb, h1]; rfl
       have HX : Hid (W 0 l = (W (j + 1) (l.drop (j + 1))).map (fun ts => acc ++ ts)) := by
         show _ = _; rw [HW.out, W_spz l j (by have := HL.out; omega) (by rw [HG.out j hlt]; exact h1)]
       clear hb h1
       go_wp2_with fail
       go_roundw
       case rel => exact ⟨j + 1, acc, by go_num, by omega, HX.out, by have := HA.out; omega, HO.out.1, HO.out.2⟩
       case measure => simp [intOf]; omega
     have tb : (((s[j]).toNat : Int) == 32) = false := by rw [show (32 : Int) = ((32 : Nat) : Int) from rfl, hb]; simpa using h1
     have hW2 := W_at l j (by have := HL.out; omega) (by rw [HG.out j hlt]; exact h1)
     have c1 := HN.out j wr hlt
     cases hx : nxt (l.drop j) with
     | error c =>
       have HX : Hid (lexR l = ([], (j : Int), c)) := HF.out j c (by rw [HW.out, hW2, hx]; rfl)
       have hc0 : (c != 0) = true := by
         have := nxt_code hx
         rcases this with rfl | rfl <;> rfl
       have C : Calls Tryz.prog 20 #[.string s, .int .i64 (j : Int)] wr fun e w' => e = .returned (.tuple #[.agg #[.int .i64 0, .int .i64 0, .string ⟨#[]⟩, .int .i64 0, .int .i64 0], .int .i64 (j : Int), .int .i64 c]) ∧ Ext wr w' := by rw [hx] at c1; exact c1
       clear hx c1 hW2 hb h1
       go_wp2_with fail
       refine C.mono ?_
       rintro e w1 ⟨rfl, E1⟩
       have HE1 : Hid (Ext w w1) := HO.out.2.trans E1
       clear E1
       go_wp2_with fail
       go_ret3
       unfold WordsQ
       rw [HX.out]
       exact ⟨_, rfl, RdT.nil _, HE1.out.alloc _⟩
     | ok x =>
       have hpos := nxt_pos hx
       have HX : Hid (W 0 l = (W (j + x.2.2.2.2) (l.drop (j + x.2.2.2.2))).map (fun ts => acc ++ [tkOf x j] ++ ts)) := by
         show _ = _
         rw [HW.out, hW2, hx]
         simp only []
         cases W (j + x.2.2.2.2) (l.drop (j + x.2.2.2.2)) <;> simp [Except.map]
       have hmS : j + x.2.2.2.2 ≤ s.size := by have := hpos.2; have := HL.out; simp at *; omega
       have hmJ : 1 ≤ x.2.2.2.2 := hpos.1
       have C : Calls Tryz.prog 20 #[.string s, .int .i64 (j : Int)] wr fun e w' => e = .returned (.tuple #[.agg #[.int .i64 x.1, .int .i64 (j : Int), .string (bs x.2.1), .int .i64 x.2.2.1, .int .i64 x.2.2.2.1], .int .i64 ((j + x.2.2.2.2 : Nat) : Int), .int .i64 0]) ∧ Ext wr w' := by rw [hx] at c1; exact c1
       obtain ⟨x0, x1, x2, x3, x4⟩ := x
       simp only [] at C HX hmS hmJ
       obtain ⟨m, hm⟩ : ∃ m, j + x4 = m := ⟨_, rfl⟩
       obtain ⟨q1, hq1⟩ : ∃ q1, bs x1 = q1 := ⟨_, rfl⟩
       rw [hm] at C HX hmS
       rw [hq1] at C
       have HJ : Hid (j < m ∧ m ≤ s.size) := ⟨by omega, hmS⟩
       have HQ : Hid (bs x1 = q1) := hq1
       have HA2 : Hid (acc.length ≤ 100000) := by have := HA.out; show _ ≤ _; omega
       clear hx c1 hpos hm hq1 hmJ hW2 hb h1
       go_wp2_with fail
       refine C.mono ?_
       rintro e w1 ⟨rfl, E1⟩
       have HO1 : Hid (OwT w1 w.heap.size u5 acc ∧ Ext w w1) := ⟨HO.out.1.ext E1, HO.out.2.trans E1⟩
       clear E1
       go_wp2_with (at_builtin; refine tk_append _ w.heap.size _ _ _ _ acc (x0, (j : Int), x1, x2, x3) rfl rfl (by rfl) (by rfl) (HO1.out.1.ext (((Ext.refl _).alloc _).alloc _)) ?cR HA2.out (by have := HO1.out.2.sz; simp; omega) ?_)
       case cR => exact new_tk (by simp) HQ.out
       intro v' w2 k1 k2 g cap hv
       have hE2 := grown_ext k2 (HO1.out.1.ext (((Ext.refl _).alloc _).alloc _)) ((HO1.out.2.alloc _).alloc _) (Nat.le_refl _)
       have HO2 : Hid (OwT w2 w.heap.size v' (acc ++ [(x0, (j : Int), x1, x2, x3)]) ∧ Ext w w2) := ⟨k1, hE2⟩
       clear k1 k2 hE2
       subst hv
       go_wp2_with fail
       go_roundw
       case rel =>
         have h4 := HJ.out
         have h7 := HA.out
         exact ⟨m, acc ++ [(x0, (j : Int), x1, x2, x3)], rfl, h4.2, HX.out, by simp; omega, HO2.out.1, HO2.out.2⟩
       case measure => have h4 := HJ.out; simp [intOf]; omega
   · have hltI : ¬ (j : Int) < (s.size : Int) := by omega
     have hjs : j = s.size := by omega
     have HX : Hid (lexR l = (acc ++ [endT s.size], 0, 0)) := HR.out _ (by rw [HW.out, List.drop_eq_nil_of_le (by have := HL.out; omega), W_nil, hjs]; rfl)
     have HA2 : Hid (acc.length ≤ 100000) := by have := HA.out; show _ ≤ _; omega
     clear hjs
     go_wp2_with (at_builtin; refine tk_append _ w.heap.size _ _ _ _ acc (endT s.size) rfl rfl (by rfl) (by rfl) (HO.out.1.ext ((Ext.refl _).alloc _)) ?cR HA2.out (by have := HO.out.2.sz; simp; omega) ?_)
     case cR => exact fun _ _ h => h
     intro v' w2 k1 k2 g cap hv
     have hE2 := grown_ext k2 (HO.out.1.ext ((Ext.refl _).alloc _)) (HO.out.2.alloc _) (Nat.le_refl _)
     have HO2 : Hid (OwT w2 w.heap.size v' (acc ++ [endT s.size]) ∧ Ext w w2) := ⟨k1, hE2⟩
     clear k1 k2 hE2
     subst hv
     go_wp2_with fail
     go_ret3
     unfold WordsQ
     rw [HX.out]
     exact ⟨_, rfl, HO2.out.1.rd, HO2.out.2⟩

open Go.RowKit
set_option maxHeartbeats 6000000

/-- What the document's Formula answers: the tree, or some fault. -/
def RFormQ (w : World) (l : List UInt8) (e : Ending) (w' : World) : Prop := ∃ (x : T) (lv : Value) (pa pe : Int), e = .returned (.tuple #[aggX x lv, .int .i64 pa, .int .i64 pe]) ∧ IsL w' (w.heap.size ≤ ·) lv x.l ∧ Ext w w' ∧ (if (parR l).2.2 = 0 then x = (parR l).1 ∧ pa = 0 ∧ pe = 0 else x = tz ∧ pe ≠ 0)
theorem prs_cases (ts : List Tk) : (∃ x ts1, LvK (O ts.length) 1 0 ts = .ok (x, ts1) ∧ (hd ts1).1 = 5 ∧ prs ts = (x, 0, 0)) ∨ (∃ x ts1, LvK (O ts.length) 1 0 ts = .ok (x, ts1) ∧ (hd ts1).1 ≠ 5 ∧ (prs ts).2.2 ≠ 0) ∨ (∃ f, LvK (O ts.length) 1 0 ts = .error f ∧ (prs ts).2.2 ≠ 0) := by
 have e : LvK (O ts.length) 1 0 ts = frm (O ts.length) 0 ts := rfl
 rw [e]
 unfold prs
 cases frm (O ts.length) 0 ts with
 | error f =>
   refine .inr (.inr ⟨f, rfl, ?_⟩)
   show cd f.2 ≠ 0
   unfold cd
   split <;> decide
 | ok q =>
   obtain ⟨x, ts1⟩ := q
   by_cases h5 : (hd ts1).1 = 5
   · exact .inl ⟨x, ts1, rfl, h5, if_pos h5⟩
   · refine .inr (.inl ⟨x, ts1, rfl, h5, ?_⟩)
     show (if (hd ts1).1 = 5 then (x, 0, 0) else (tz, (hd ts1).2.1, 4) : T × Int × Int).2.2 ≠ 0
     rw [if_neg h5]
     exact (by decide : (4 : Int) ≠ 0)
set_option maxRecDepth 100000 in
theorem rformula_bad (s : ByteArray) (w : World) (l : List UInt8) (hl : s.data.toList = l) (hs : s.size ≤ maxLen) (h0 : (lexR l).2.2 ≠ 0) : Calls Tryz.prog 5 #[.string s] w (RFormQ w l) := by
 have c1 := qwords_any s (w.alloc (.cells #[.int .i64 0, .int .i64 0, .string ⟨#[]⟩, .int .i64 0, .int .i64 0, .int .i64 0, .bool false, .bool false, .int .i64 0, .int .i64 0, .bool false, .bool false, .slice none 0 0] 29)) hs
 rw [hl] at c1
 have HPR : Hid (parR l = (tz, (lexR l).2.1, (lexR l).2.2)) := by show _ = _; unfold parR; rw [if_neg h0]
 have hne : ((lexR l).2.2 != 0) = true := by simpa using h0
 have hne2 : ((lexR l).2.2 == 0) = false := by simpa using h0
 unfold WordsQ at c1
 obtain ⟨pa, hpa⟩ : ∃ pa, (lexR l).2.1 = pa := ⟨_, rfl⟩
 obtain ⟨pe, hpe⟩ : ∃ pe, (lexR l).2.2 = pe := ⟨_, rfl⟩
 rw [hpa, hpe] at c1 HPR
 rw [hpe] at hne hne2
 have HP0 : Hid (pe ≠ 0) := by rw [hpe] at h0; exact h0
 clear hpa hpe h0 hl
 go_enter Tryz.func5, Tryz.ntmps5
 go_wp2_with fail
 refine c1.mono ?_
 rintro e w1 ⟨v, rfl, hR, E1⟩
 have HB : Hid (BlkX w1 w.heap.size tz (.slice none 0 0) ∧ Ext w w1) := ⟨BlkX.top rfl E1, ((Ext.refl w).alloc _).trans E1⟩
 have HB0 := HB.out.1
 obtain ⟨qa, ⟨la0, la1, la2, la3, la4, la5, la6, la7, la8, la9, la10, la11, la12⟩, ga0, ga1, ga2, ga3, ga4, ga5, ga6, ga7, ga8, ga9, ga10, ga11, ga12⟩ := HB0
 clear c1 hR E1
 go_wp2_with fail
 have HB9 := HB.out.1
 have HX9 := HB.out.2
 show bodyPost Tryz.prog _ _ _ _ (putX w1 w.heap.size (tz) (.slice none 0 0))
 obtain ⟨z, ⟨k0, k1, k2, k3, k4, k5, k6, k7, k8, k9, k10, k11, k12⟩, ff⟩ := HB9.put (tz) (.slice none 0 0)
 have HE9 := putX_E HX9 (Nat.le_refl w.heap.size) (tz) (.slice none 0 0)
 refine bodyPost_ret (v := .tuple #[aggX (tz) (.slice none 0 0), .int .i64 pa, .int .i64 pe]) (by simp [results, Tryz.results5, go_sem, k0, k1, k2, k3, k4, k5, k6, k7, k8, k9, k10, k11, k12, aggX]) rfl ?_
 refine ⟨tz, _, pa, pe, rfl, .nil, HE9, ?_⟩
 rw [HPR.out]
 show (if pe = 0 then _ else _)
 rw [if_neg HP0.out]
 exact ⟨rfl, HP0.out⟩
set_option maxRecDepth 100000 in
theorem rformula_ok (s : ByteArray) (w : World) (l : List UInt8) (hl : s.data.toList = l) (hs : s.size ≤ maxLen) (h0 : (lexR l).2.2 = 0) : Calls Tryz.prog 5 #[.string s] w (RFormQ w l) := by
 have c1 := qwords_any s (w.alloc (.cells #[.int .i64 0, .int .i64 0, .string ⟨#[]⟩, .int .i64 0, .int .i64 0, .int .i64 0, .bool false, .bool false, .int .i64 0, .int .i64 0, .bool false, .bool false, .slice none 0 0] 29)) hs
 rw [hl] at c1
 obtain ⟨ts, hl300, hW, hlex⟩ := lexR_cases l |>.resolve_right (by rintro ⟨p, c, h1, h2, _⟩; rw [h1] at h0; simp only [] at h0; omega)
 have HPR : Hid (parR l = prs ts) := by show _ = _; unfold parR; rw [if_pos h0, hlex]
 have HTS : Hid (Nz ts ∧ (∀ t ∈ ts, Kd t) ∧ ts.length ≤ 400) := ⟨W_nz hW, fun t ht => ⟨Nat.le_trans (W_len l.length l 0 ts (Nat.le_refl _) hW t ht) hl300, W_kd l.length l 0 ts (Nat.le_refl _) hW t ht⟩, by have := (W_count l.length l 0 ts (Nat.le_refl _) hW).1; omega⟩
 unfold WordsQ at c1
 rw [hlex] at c1
 clear hl300 hW hlex h0 hl
 go_enter Tryz.func5, Tryz.ntmps5
 go_wp2_with fail
 refine c1.mono ?_
 rintro e w1 ⟨v, rfl, hR, E1⟩
 obtain ⟨tp, tc, hv, htc⟩ := hR.form
 obtain ⟨tb, off, t0, htp, _⟩ := (hv ▸ hR).at (k := 0) (by have := HTS.out.1.pos; omega)
 subst htp
 obtain ⟨tn, htn⟩ : ∃ tn, ts.length = tn := ⟨_, rfl⟩
 rw [htn] at hv
 subst hv
 have hw1 : w.heap.size + 1 ≤ w1.heap.size := by have := E1.size; simp at this; omega
 have HB : Hid (BlkX w1 w.heap.size tz (.slice none 0 0) ∧ Ext w w1 ∧ RdT w1 (.slice (some ⟨tb, off, none⟩) tn tc) ts ∧ ts.length = tn) := ⟨BlkX.top rfl E1, ((Ext.refl w).alloc _).trans E1, hR, htn⟩
 clear c1 hR E1 htc htn
 go_wp2_with fail
 have E2 : Ext w1 (w1.alloc (.cells #[.slice (some ⟨tb, off, none⟩) tn tc, .int .i64 0, .int .i64 0, .int .i64 0, .int .i64 0] 42)) := (Ext.refl _).alloc _
 have hz2 : w1.heap.size < (w1.alloc (.cells #[.slice (some ⟨tb, off, none⟩) tn tc, .int .i64 0, .int .i64 0, .int .i64 0, .int .i64 0] 42)).heap.size := by simp
 have R2 : Rp w1 w1.heap.size (w1.alloc (.cells #[.slice (some ⟨tb, off, none⟩) tn tc, .int .i64 0, .int .i64 0, .int .i64 0, .int .i64 0] 42)) ts ((0 : Nat) : Int) 0 0 := ⟨E2, Nat.le_refl _, HTS.out.1, HTS.out.2.2, HTS.out.2.1, by decide, by decide, tb, off, tc, tn, 0, ts, HB.out.2.2.1, HB.out.2.2.2, by have := HTS.out.2.2; have := HB.out.2.2.2; omega, by have := HTS.out.1.pos; have := HB.out.2.2.2; omega, rfl, blk5_top rfl (Ext.refl _)⟩
 have c2 := reader_all w1 w1.heap.size ts.length (w1.alloc (.cells #[.slice (some ⟨tb, off, none⟩) tn tc, .int .i64 0, .int .i64 0, .int .i64 0, .int .i64 0] 42)) ts 0 0 1 R2 (Nat.le_refl _) (by omega) (by omega) (by omega)
 have H2 : Hid (BlkX (w1.alloc (.cells #[.slice (some ⟨tb, off, none⟩) tn tc, .int .i64 0, .int .i64 0, .int .i64 0, .int .i64 0] 42)) w.heap.size tz (.slice none 0 0) ∧ Ext w (w1.alloc (.cells #[.slice (some ⟨tb, off, none⟩) tn tc, .int .i64 0, .int .i64 0, .int .i64 0, .int .i64 0] 42))) := ⟨HB.out.1.ext E2, HB.out.2.1.trans E2⟩
 clear R2 E2
 generalize (w1.alloc (.cells #[.slice (some ⟨tb, off, none⟩) tn tc, .int .i64 0, .int .i64 0, .int .i64 0, .int .i64 0] 42)) = W2 at *
 refine c2.mono ?_
 intro e w3 h3
 obtain ⟨x, p, ln, c, rfl, hY⟩ := h3.form
 obtain ⟨us, d2, pa2, why2, R3, hd2, hd3, HY⟩ := hY.state (by decide)
 have H3 : Hid (BlkX w3 w.heap.size tz (.slice none 0 0) ∧ Ext w w3 ∧ Rp w1 w1.heap.size w3 us d2 pa2 why2 ∧ w.heap.size + 1 ≤ W2.heap.size) := ⟨H2.out.1.extB hY.1 (by omega), hY.1.ext H2.out.2 (by omega), R3, by omega⟩
 have hw3 : w1.heap.size < w3.heap.size := R3.lt.1
 clear h3 hY c2 hd2 hd3 R3
 unfold aggX
 have E4 : Ext w3 (w3.alloc (.cells #[.int .i64 x.k, .int .i64 x.n, .string (bs x.s), .int .i64 x.e, .int .i64 x.r.1, .int .i64 x.r.2.1, .bool x.r.2.2.1, .bool x.r.2.2.2, .int .i64 x.q.1, .int .i64 x.q.2.1, .bool x.q.2.2.1, .bool x.q.2.2.2, .slice p ln c] 29)) := (Ext.refl _).alloc _
 have B4 : BlkX (w3.alloc (.cells #[.int .i64 x.k, .int .i64 x.n, .string (bs x.s), .int .i64 x.e, .int .i64 x.r.1, .int .i64 x.r.2.1, .bool x.r.2.2.1, .bool x.r.2.2.2, .int .i64 x.q.1, .int .i64 x.q.2.1, .bool x.q.2.2.1, .bool x.q.2.2.2, .slice p ln c] 29)) w3.heap.size x (.slice p ln c) := blk13_top rfl (Ext.refl _)
 have H4 : Hid (BlkX (w3.alloc (.cells #[.int .i64 x.k, .int .i64 x.n, .string (bs x.s), .int .i64 x.e, .int .i64 x.r.1, .int .i64 x.r.2.1, .bool x.r.2.2.1, .bool x.r.2.2.2, .int .i64 x.q.1, .int .i64 x.q.2.1, .bool x.q.2.2.1, .bool x.q.2.2.2, .slice p ln c] 29)) w.heap.size tz (.slice none 0 0) ∧ Ext w (w3.alloc (.cells #[.int .i64 x.k, .int .i64 x.n, .string (bs x.s), .int .i64 x.e, .int .i64 x.r.1, .int .i64 x.r.2.1, .bool x.r.2.2.1, .bool x.r.2.2.2, .int .i64 x.q.1, .int .i64 x.q.2.1, .bool x.q.2.2.1, .bool x.q.2.2.2, .slice p ln c] 29)) ∧ Rp w1 w1.heap.size (w3.alloc (.cells #[.int .i64 x.k, .int .i64 x.n, .string (bs x.s), .int .i64 x.e, .int .i64 x.r.1, .int .i64 x.r.2.1, .bool x.r.2.2.1, .bool x.r.2.2.2, .int .i64 x.q.1, .int .i64 x.q.2.1, .bool x.q.2.2.1, .bool x.q.2.2.2, .slice p ln c] 29)) us d2 pa2 why2 ∧ BlkX (w3.alloc (.cells #[.int .i64 x.k, .int .i64 x.n, .string (bs x.s), .int .i64 x.e, .int .i64 x.r.1, .int .i64 x.r.2.1, .bool x.r.2.2.1, .bool x.r.2.2.2, .int .i64 x.q.1, .int .i64 x.q.2.1, .bool x.q.2.2.1, .bool x.q.2.2.2, .slice p ln c] 29)) w3.heap.size x (.slice p ln c) ∧ Ext w3 (w3.alloc (.cells #[.int .i64 x.k, .int .i64 x.n, .string (bs x.s), .int .i64 x.e, .int .i64 x.r.1, .int .i64 x.r.2.1, .bool x.r.2.2.1, .bool x.r.2.2.2, .int .i64 x.q.1, .int .i64 x.q.2.1, .bool x.q.2.2.1, .bool x.q.2.2.2, .slice p ln c] 29))) := ⟨H3.out.1.ext E4, H3.out.2.1.trans E4, H3.out.2.2.1.ext E4, B4, E4⟩
 have c3 := rt_any H4.out.2.2.1
 unfold tkA at c3
 have kf0 := fun W => tkf0 (hd us) W
 obtain ⟨u, hu⟩ : ∃ u, hd us = u := ⟨_, rfl⟩
 have HU : Hid (hd us = u) := hu
 rw [hu] at c3 kf0
 clear E4 B4 hu
 go_wp2_with fail
 refine c3.mono ?_
 rintro e w5 ⟨rfl, E5⟩
 have H5 : Hid (BlkX w5 w.heap.size tz (.slice none 0 0) ∧ Ext w w5 ∧ Rp w1 w1.heap.size w5 us d2 pa2 why2 ∧ BlkX w5 w3.heap.size x (.slice p ln c) ∧ Ext w3 w5) := ⟨H4.out.1.ext E5, H4.out.2.1.trans E5, H4.out.2.2.1.ext E5, H4.out.2.2.2.1.ext E5, H4.out.2.2.2.2.trans E5⟩
 have hw5 : w3.heap.size < w5.heap.size := H5.out.2.2.2.1.1
 clear c3 E5
 by_cases h5 : u.1 = 5
 · have n5 : (u.1 != 5) = false := by rw [h5]; rfl
   have H55 : Hid (u.1 = 5) := h5
   clear h5
   by_cases hw : why2 = 0
   · have w0' : (why2 != 0) = false := by rw [hw]; rfl
     have HW : Hid (why2 = 0) := hw
     have HB0 := H5.out.1
     obtain ⟨qa, ⟨la0, la1, la2, la3, la4, la5, la6, la7, la8, la9, la10, la11, la12⟩, ga0, ga1, ga2, ga3, ga4, ga5, ga6, ga7, ga8, ga9, ga10, ga11, ga12⟩ := HB0
     have HB1 := H5.out.2.2.2.1
     obtain ⟨qc, ⟨lc0, lc1, lc2, lc3, lc4, lc5, lc6, lc7, lc8, lc9, lc10, lc11, lc12⟩, gc0, gc1, gc2, gc3, gc4, gc5, gc6, gc7, gc8, gc9, gc10, gc11, gc12⟩ := HB1
     have HR5 := H5.out.2.2.1
     obtain ⟨g0, g1, g2, g3, g4, g5, g6, tb, off, cc, nn, ii, all, u1, u2, u3, u4, u5, u6⟩ := HR5
     obtain ⟨hz, ⟨b0, b1, b2, b3, b4⟩, f0, f1, f2, f3, f4⟩ := u6
     clear g0 g1 g2 g3 g4 g5 g6 u1 u2 u3 u4 u5
     clear hw
     go_wp2_with fail
     have HB9 := H5.out.1
     have HX9 := H5.out.2.1
     show bodyPost Tryz.prog _ _ _ _ (putX w5 w.heap.size (x) (.slice p ln c))
     obtain ⟨z, ⟨k0, k1, k2, k3, k4, k5, k6, k7, k8, k9, k10, k11, k12⟩, ff⟩ := HB9.put (x) (.slice p ln c)
     have HE9 := putX_E HX9 (Nat.le_refl w.heap.size) (x) (.slice p ln c)
     refine bodyPost_ret (v := .tuple #[aggX (x) (.slice p ln c), .int .i64 0, .int .i64 0]) (by simp [results, Tryz.results5, go_sem, k0, k1, k2, k3, k4, k5, k6, k7, k8, k9, k10, k11, k12, aggX]) rfl ?_
     have hpr : prs ts = (x, 0, 0) ∧ IsL w3 (W2.heap.size ≤ ·) (.slice p ln c) x.l := by
       rcases HY.out with ⟨_, _, y3, y4⟩ | ⟨y1, _⟩
       · rcases prs_cases ts with ⟨x', ts1, q1, q2, q3⟩ | ⟨x', ts1, q1, q2, _⟩ | ⟨f, q1, _⟩
         · rw [y3] at q1; cases q1; exact ⟨q3, y4⟩
         · rw [y3] at q1; cases q1; exact absurd (by rw [HU.out]; exact H55.out) q2
         · rw [y3] at q1; cases q1
       · exact absurd HW.out y1
     refine ⟨x, _, 0, 0, rfl, ?_, HE9, ?_⟩
     · exact ((hpr.2.ext H5.out.2.2.2.2).keep (by rw [putX_size]; exact Nat.le_refl _) (fun j hj hs => putX_heap _ _ _ _ _ (by have := H3.out.2.2.2; omega)) (fun j hj _ => hj)).mono (fun j hj _ => by have := H3.out.2.2.2; omega)
     · rw [HPR.out, hpr.1]
       exact ⟨rfl, rfl, rfl⟩
   · have w0' : (why2 != 0) = true := by simpa using hw
     have HW : Hid (why2 ≠ 0) := hw
     have HB0 := H5.out.1
     obtain ⟨qa, ⟨la0, la1, la2, la3, la4, la5, la6, la7, la8, la9, la10, la11, la12⟩, ga0, ga1, ga2, ga3, ga4, ga5, ga6, ga7, ga8, ga9, ga10, ga11, ga12⟩ := HB0
     have HR5 := H5.out.2.2.1
     obtain ⟨g0, g1, g2, g3, g4, g5, g6, tb, off, cc, nn, ii, all, u1, u2, u3, u4, u5, u6⟩ := HR5
     obtain ⟨hz, ⟨b0, b1, b2, b3, b4⟩, f0, f1, f2, f3, f4⟩ := u6
     clear g0 g1 g2 g3 g4 g5 g6 u1 u2 u3 u4 u5
     clear hw
     go_wp2_with fail
     go_region
     go_wp2_with fail
     have HB9 := H5.out.1
     have HX9 := H5.out.2.1
     show bodyPost Tryz.prog _ _ _ _ (putX w5 w.heap.size tz (.slice none 0 0)).drew
     obtain ⟨z, ⟨k0, k1, k2, k3, k4, k5, k6, k7, k8, k9, k10, k11, k12⟩, ff⟩ := (HB9.put tz (.slice none 0 0)).ext (Ext.refl _).drew
     have HE9 := putX_E HX9 (Nat.le_refl w.heap.size) tz (.slice none 0 0)
     refine bodyPost_ret (v := .tuple #[aggX tz (.slice none 0 0), .int .i64 pa2, .int .i64 why2]) (by simp [results, Tryz.results5, go_sem, k0, k1, k2, k3, k4, k5, k6, k7, k8, k9, k10, k11, k12, aggX]) rfl ?_
     have hpr : (prs ts).2.2 ≠ 0 := by
       rcases HY.out with ⟨y1, _⟩ | ⟨_, ⟨f, y2⟩, _⟩
       · exact absurd y1 HW.out
       · rcases prs_cases ts with ⟨x', ts1, q1, q2, q3⟩ | ⟨x', ts1, q1, q2, _⟩ | ⟨f, q1, q2⟩
         · rw [y2] at q1; cases q1
         · rw [y2] at q1; cases q1
         · exact q2
     refine ⟨tz, _, pa2, why2, rfl, .nil, HE9.drew, ?_⟩
     rw [HPR.out, if_neg hpr]
     exact ⟨rfl, HW.out⟩
 · have n5 : (u.1 != 5) = true := by simpa using h5
   have H55 : Hid (u.1 ≠ 5) := h5
   clear h5
   go_wp2_with fail
   refine (rbad_any H5.out.2.2.1 4).mono ?_
   rintro e w6 ⟨rfl, R6, X6⟩
   obtain ⟨pa6, hpa6⟩ : ∃ pa6, (if why2 = 0 then (hd us).2.1 else pa2) = pa6 := ⟨_, rfl⟩
   obtain ⟨why6, hwhy6⟩ : ∃ why6, (if why2 = 0 then (4 : Int) else why2) = why6 := ⟨_, rfl⟩
   have hwn : why6 ≠ 0 := by rw [← hwhy6]; split <;> omega
   rw [hpa6, hwhy6] at R6
   have H6 : Hid (BlkX w6 w.heap.size tz (.slice none 0 0) ∧ Ext w w6) := ⟨H5.out.1.extB X6 (by omega), X6.ext H5.out.2.1 (by omega)⟩
   have w0' : (why6 != 0) = true := by simpa using hwn
   have HW : Hid (why6 ≠ 0) := hwn
   have HB0 := H6.out.1
   obtain ⟨qa, ⟨la0, la1, la2, la3, la4, la5, la6, la7, la8, la9, la10, la11, la12⟩, ga0, ga1, ga2, ga3, ga4, ga5, ga6, ga7, ga8, ga9, ga10, ga11, ga12⟩ := HB0
   have HR6 := R6
   obtain ⟨g0, g1, g2, g3, g4, g5, g6, tb, off, cc, nn, ii, all, u1, u2, u3, u4, u5, u6⟩ := HR6
   obtain ⟨hz, ⟨b0, b1, b2, b3, b4⟩, f0, f1, f2, f3, f4⟩ := u6
   clear g0 g1 g2 g3 g4 g5 g6 u1 u2 u3 u4 u5
   clear hwn R6 X6 hpa6 hwhy6
   go_wp2_with fail
   go_region
   go_wp2_with fail
   have HB9 := H6.out.1
   have HX9 := H6.out.2
   show bodyPost Tryz.prog _ _ _ _ (putX w6 w.heap.size tz (.slice none 0 0)).drew
   obtain ⟨z, ⟨k0, k1, k2, k3, k4, k5, k6, k7, k8, k9, k10, k11, k12⟩, ff⟩ := (HB9.put tz (.slice none 0 0)).ext (Ext.refl _).drew
   have HE9 := putX_E HX9 (Nat.le_refl w.heap.size) tz (.slice none 0 0)
   refine bodyPost_ret (v := .tuple #[aggX tz (.slice none 0 0), .int .i64 pa6, .int .i64 why6]) (by simp [results, Tryz.results5, go_sem, k0, k1, k2, k3, k4, k5, k6, k7, k8, k9, k10, k11, k12, aggX]) rfl ?_
   have hpr : (prs ts).2.2 ≠ 0 := by
     rcases HY.out with ⟨_, _, y3, y4⟩ | ⟨_, ⟨f, y2⟩, _⟩
     · rcases prs_cases ts with ⟨x', ts1, q1, q2, q3⟩ | ⟨x', ts1, q1, q2, q3⟩ | ⟨f, q1, _⟩
       · rw [y3] at q1; cases q1; exact absurd (by rw [← HU.out]; exact q2) H55.out
       · exact q3
       · rw [y3] at q1; cases q1
     · rcases prs_cases ts with ⟨x', ts1, q1, q2, q3⟩ | ⟨x', ts1, q1, q2, _⟩ | ⟨f, q1, q2⟩
       · rw [y2] at q1; cases q1
       · rw [y2] at q1; cases q1
       · exact q2
   refine ⟨tz, _, pa6, why6, rfl, .nil, HE9.drew, ?_⟩
   rw [HPR.out, if_neg hpr]
   exact ⟨rfl, HW.out⟩
/-- The document's Formula, of any text. -/
theorem rformula_any (s : ByteArray) (w : World) (hs : s.size ≤ maxLen) : Calls Tryz.prog 5 #[.string s] w (RFormQ w s.data.toList) := by
 by_cases h0 : (lexR s.data.toList).2.2 = 0
 · exact rformula_ok s w _ rfl hs h0
 · exact rformula_bad s w _ rfl hs h0

open Go.ChangeShapes Go.WideShapes Go.ChangeAt Go.RowKit

theorem ownK : ownKnob Tryz.prog.godebug = none := by kernel_rfl
/-- A datum's cells. -/
def flat : Nat → DataW Unit → List Value
 | _ + 1, .lit (.int k z) => [.int k z]
 | _ + 1, .lit (.string l) => [.string ⟨l.toArray⟩]
 | n + 1, .agg ds => ds.flatMap (flat n)
 | _, _ => []
def layIn (cs : List Value) : Obj → Obj
 | .cells _ t frozen => .cells cs.toArray t frozen
 | o => o
theorem cellsStr : Tryz.prog.cellsOf 9 = 1 := by kernel_rfl
/-- A listed array of strings: its cells. -/
theorem strs_of {W : World} {rest : List (String × DataW Unit)} {name : String} {g : Nat} {T : TypeId} {n : Nat} (ls : List (List UInt8)) (gN : Tryz.prog.globalNamed name = some g) (gT : (Tryz.prog.globals[g]?).map (·.type) = some T)
   (uT : Tryz.prog.underlying T = some (.array n 9)) (cT : Tryz.prog.cellsOf T = n)
   (h : laidMet Tryz.prog ((name, .agg (ls.map fun l => .lit (.string l))) :: rest) W) : g < W.heap.size ∧ ∀ i l, i < n → ls[i]? = some l → W.cell? ⟨g, i, none⟩ = some (.string (bs l)) := by
 obtain ⟨ps, ⟨g', t', cs, fuel, p, q, hg', ht', hvar, hd, _, _⟩, _⟩ := h
 obtain rfl := Option.some.inj (gN.symm.trans hg')
 obtain rfl := Option.some.inj (gT.symm.trans ht')
 have hcell := World.var?_cell gN hvar
 have hsz : g < W.heap.size := by
   have h0 := hvar
   simp only [World.var?, gN, Option.bind_some] at h0
   cases hb : W.heap[g]? with
   | none => rw [hb] at h0; cases h0
   | some o => exact (Array.getElem?_eq_some_iff.1 hb).1
 refine ⟨hsz, ?_⟩
 cases fuel with
 | zero => simp [DataW.trod] at hd
 | succ fuel =>
   simp only [DataW.trod, uT, cellsStr, cT, Nat.mul_one] at hd
   split at hd
   · obtain ⟨xs, hm, hx⟩ := Option.map_eq_some_iff.1 hd
     have hxs : xs.map (·.1) = (ls.map fun l => (.lit (.string l) : DataW Unit)) := by
       have := congrArg Prod.fst hx
       simpa using this
     intro i l hi hl
     obtain ⟨b, hb, hf⟩ := Lib.mapM_at hm i i (by simp [hi])
     obtain ⟨s, hc, rfl, _⟩ := DataW.trod_string Tryz.underlying9 hf
     have h1 : cs.toList[i]? = some (.string s) := by
       have := congrArg (·[0]?) hc
       simpa [List.getElem?_take, List.getElem?_drop] using this
     have h2 : (xs.map (·.1))[i]? = some (DataW.lit (.string s.data.toList) : DataW Unit) := by simp [hb]
     rw [hxs, List.getElem?_map, hl] at h2
     simp only [Option.map_some, Option.some.injEq, DataW.lit.injEq, Lit.string.injEq] at h2
     rw [hcell i, h2, bs_of]
     simpa using h1
   · cases hd
def nmL8 : List (List UInt8) := [[], [35, 82, 69, 70, 33], [35, 86, 65, 76, 85, 69, 33], [35, 68, 73, 86, 47, 48, 33], [35, 78, 85, 77, 33], [35, 67, 89, 67, 76, 69, 33]]
/-- The tables that the program reads. -/
def Tab8 (w : World) : Prop := Tab w ∧ Tab7 w
theorem Tab8.ext {w w' : World} (h : Tab8 w) (e : Ext w w') : Tab8 w' := ⟨h.1.ext e, h.2.ext e⟩
def laidList : List (String × DataW Unit) := Rows.printOneRow.laid
def layAll (h : Array Obj) : Array Obj := [(6, flat 4 Rows.laid_math_bits_deBruijn32tab), (7, flat 4 Rows.laid_math_bits_deBruijn64tab), (2, flat 4 Rows.laid_internal_strconv_uint64pow10), (5, flat 4 Rows.laid_unicode_utf8_acceptRanges), (0, flat 4 Rows.laid_cadastre_value_names), (1, flat 4 Rows.laid_cadastre_lex_signs), (4, flat 4 Rows.laid_unicode_utf8_first)].foldl (fun h x => h.modify x.1 (layIn x.2)) h
noncomputable def laidWorld (os : Os) : World :=
 { World.holding Tryz.prog os ⟨#[], #[], []⟩ with heap := layAll (World.holding Tryz.prog os ⟨#[], #[], []⟩).heap }
theorem gPow : Tryz.prog.globalNamed "internal/strconv.uint64pow10" = some 2 := by kernel_rfl
theorem gPowType : (Tryz.prog.globals[2]?).map (·.type) = some 159 := by kernel_rfl
theorem cellsPow : Tryz.prog.cellsOf 159 = 20 := by kernel_rfl
theorem cellsU64 : Tryz.prog.cellsOf 135 = 1 := by kernel_rfl
theorem tab_of {W : World} (h : laidMetH Tryz.prog laidList W) : Tab8 W := by
 rw [MakeChecks.laidMetH_plain _ _ _ (by kernel_rfl)] at h
 have h0 : laidMet Tryz.prog [("math/bits.deBruijn32tab", Rows.laid_math_bits_deBruijn32tab), ("math/bits.deBruijn64tab", Rows.laid_math_bits_deBruijn64tab), ("internal/strconv.uint64pow10", Rows.laid_internal_strconv_uint64pow10), ("unicode/utf8.acceptRanges", Rows.laid_unicode_utf8_acceptRanges), ("cadastre/value.names", .agg (nmL8.map fun l => .lit (.string l))), ("cadastre/lex.signs", .agg (sgsL.map fun l => .lit (.string l))), ("unicode/utf8.first", Rows.laid_unicode_utf8_first)] W := h
 have h3 : laidMet Tryz.prog [("internal/strconv.uint64pow10", Rows.laid_internal_strconv_uint64pow10), ("unicode/utf8.acceptRanges", Rows.laid_unicode_utf8_acceptRanges), ("cadastre/value.names", .agg (nmL8.map fun l => .lit (.string l))), ("cadastre/lex.signs", .agg (sgsL.map fun l => .lit (.string l))), ("unicode/utf8.first", Rows.laid_unicode_utf8_first)] W := laidMet.tail (laidMet.tail (h0))
 have h1 : laidMet Tryz.prog [("cadastre/value.names", .agg (nmL8.map fun l => .lit (.string l))), ("cadastre/lex.signs", .agg (sgsL.map fun l => .lit (.string l))), ("unicode/utf8.first", Rows.laid_unicode_utf8_first)] W := laidMet.tail (laidMet.tail (laidMet.tail (laidMet.tail (h0))))
 have h2 : laidMet Tryz.prog [("cadastre/lex.signs", .agg (sgsL.map fun l => .lit (.string l))), ("unicode/utf8.first", Rows.laid_unicode_utf8_first)] W := laidMet.tail (laidMet.tail (laidMet.tail (laidMet.tail (laidMet.tail (h0)))))
 obtain ⟨z, k⟩ := strs_of nmL8 (g := 0) (T := 111) (n := 6) (by kernel_rfl) (by kernel_rfl) Tryz.underlying111 (by kernel_rfl) h1
 obtain ⟨z', k'⟩ := strs_of sgsL (g := 1) (T := 142) (n := 15) (by kernel_rfl) (by kernel_rfl) Tryz.underlying142 (by kernel_rfl) h2
 refine ⟨Lib.tabIs_of_head gPow gPowType Tryz.underlying159 Tryz.underlying135 cellsU64 cellsPow h3, ⟨z, k 0 _ (by decide) rfl, k 1 _ (by decide) rfl, k 2 _ (by decide) rfl, k 3 _ (by decide) rfl, k 4 _ (by decide) rfl, k 5 _ (by decide) rfl⟩, z', fun i p hp => k' i p ?_ hp⟩
 exact (List.getElem?_eq_some_iff.mp hp).1
theorem mx_lt : 3 < Tryz.prog.globals.size := of_decide_eq_true (by kernel_rfl)
/-- The library's own variable holds some number: by the world's shape. -/
theorem mx_of {W : World} (h : W.ShapedOpen Tryz.prog) : Mx W := by
 obtain ⟨m, hm⟩ := cell_of_shapedOpen_int (k := .i64) (t := 3) h mx_lt (zero := #[.int .i64 0]) (by kernel_rfl) rfl (by kernel_rfl) (by kernel_rfl) Tryz.underlying3
 exact ⟨World.block_lt_of_cell? _ _ hm, m, hm⟩
theorem tabP_of {W : World} (h : laidMetH Tryz.prog laidList W) (hs : W.ShapedOpen Tryz.prog) : TabP W := ⟨(tab_of h).1, (tab_of h).2, mx_of hs⟩
end Go.Proofs.YtcggiljlilbdfaaGreatDoor
