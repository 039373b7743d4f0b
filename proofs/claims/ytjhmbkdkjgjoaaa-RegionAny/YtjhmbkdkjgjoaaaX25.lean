import Derived.Test.YtjhmbkdkjgjoaaaX24
import Derived.Test.YtjhmbkdkjgjoaaaX19
import Derived.Test.YtjhmbkdkjgjoaaaX9
import Derived.Test.YtjhmbkdkjgjoaaaX7
import Derived.Test.YtjhmbkdkjgjoaaaX6
import Derived.Test.YtjhmbkdkjgjoaaaX12
import Derived.Lib.OthersKept
import Derived.Lib.OwnKind
import Derived.Lib.AppendStr
import Derived.Lib.AppendIntMem
import Derived.Lib.UnsafeStr
import Derived.Test.YtjhmbkdkjgjoaaaShelf
import Derived.Lib.Replace
import Derived.Lib.ReplaceLaws
import Derived.Lib.CountLaws
namespace Go.Proofs.Ytjhmbkdkjgjoaaa
open Go.RowKit
set_option maxHeartbeats 6000000
def RFormQ (w : World) (l : List UInt8) (e : Ending) (w' : World) : Prop := ∃ (x : T) (lv : Value) (pa pe : Int), e = .returned (.tuple #[aggX x lv, .int .i64 pa, .int .i64 pe]) ∧ IsL w' (w.heap.size ≤ ·) lv x.l ∧ Ext w w' ∧ (if (parR l).2.2 = 0 then x = (parR l).1 ∧ pa = 0 ∧ pe = 0 else x = tz ∧ pe ≠ 0)
theorem prs_cases (ts : List Tk) : (∃ x ts1, LvK (O ts.length) 1 0 ts = .ok (x, ts1) ∧ (hd ts1).1 = 5 ∧ prs ts = (x, 0, 0)) ∨ (∃ x ts1, LvK (O ts.length) 1 0 ts = .ok (x, ts1) ∧ (hd ts1).1 ≠ 5 ∧ (prs ts).2.2 ≠ 0) ∨ (∃ f, LvK (O ts.length) 1 0 ts = .error f ∧ (prs ts).2.2 ≠ 0) := by
 have e : LvK (O ts.length) 1 0 ts = frm (O ts.length) 0 ts := rfl
 rw [e]
 unfold prs
 cases frm (O ts.length) 0 ts with
 | error f =>
   refine .inr (.inr ⟨f, rfl, ?_⟩)
   show cd f.2 ≠ 0
   unfold cd
   split <;> decide
 | ok q =>
   obtain ⟨x, ts1⟩ := q
   by_cases h5 : (hd ts1).1 = 5
   · exact .inl ⟨x, ts1, rfl, h5, if_pos h5⟩
   · refine .inr (.inl ⟨x, ts1, rfl, h5, ?_⟩)
     show (if (hd ts1).1 = 5 then (x, 0, 0) else (tz, (hd ts1).2.1, 4) : T × Int × Int).2.2 ≠ 0
     rw [if_neg h5]
     exact (by decide : (4 : Int) ≠ 0)
set_option maxRecDepth 100000 in
theorem rformula_bad (s : ByteArray) (w : World) (l : List UInt8) (hl : s.data.toList = l) (hs : s.size ≤ maxLen) (h0 : (lexR l).2.2 ≠ 0) : Calls Try.prog 9 #[.string s] w (RFormQ w l) := by
 have c1 := qwords_any s (w.alloc (.cells #[.int .i64 0, .int .i64 0, .string ⟨#[]⟩, .int .i64 0, .int .i64 0, .int .i64 0, .bool false, .bool false, .int .i64 0, .int .i64 0, .bool false, .bool false, .slice none 0 0] 29)) hs
 rw [hl] at c1
 have HPR : Hid (parR l = (tz, (lexR l).2.1, (lexR l).2.2)) := by show _ = _; unfold parR; rw [if_neg h0]
 have hne : ((lexR l).2.2 != 0) = true := by simpa using h0
 have hne2 : ((lexR l).2.2 == 0) = false := by simpa using h0
 unfold WordsQ at c1
 obtain ⟨pa, hpa⟩ : ∃ pa, (lexR l).2.1 = pa := ⟨_, rfl⟩
 obtain ⟨pe, hpe⟩ : ∃ pe, (lexR l).2.2 = pe := ⟨_, rfl⟩
 rw [hpa, hpe] at c1 HPR
 rw [hpe] at hne hne2
 have HP0 : Hid (pe ≠ 0) := by rw [hpe] at h0; exact h0
 clear hpa hpe h0 hl
 go_enter Try.func9, Try.ntmps9
 go_wp2_with fail
 refine c1.mono ?_
 rintro e w1 ⟨v, rfl, hR, E1⟩
 have HB : Hid (BlkX w1 w.heap.size tz (.slice none 0 0) ∧ Ext w w1) := ⟨BlkX.top rfl E1, ((Ext.refl w).alloc _).trans E1⟩
 have HB0 := HB.out.1
 obtain ⟨qa, ⟨la0, la1, la2, la3, la4, la5, la6, la7, la8, la9, la10, la11, la12⟩, ga0, ga1, ga2, ga3, ga4, ga5, ga6, ga7, ga8, ga9, ga10, ga11, ga12⟩ := HB0
 clear c1 hR E1
 go_wp2_with fail
 have HB9 := HB.out.1
 have HX9 := HB.out.2
 show bodyPost Try.prog _ _ _ _ (putX w1 w.heap.size (tz) (.slice none 0 0))
 obtain ⟨z, ⟨k0, k1, k2, k3, k4, k5, k6, k7, k8, k9, k10, k11, k12⟩, ff⟩ := HB9.put (tz) (.slice none 0 0)
 have HE9 := putX_E HX9 (Nat.le_refl w.heap.size) (tz) (.slice none 0 0)
 refine bodyPost_ret (v := .tuple #[aggX (tz) (.slice none 0 0), .int .i64 pa, .int .i64 pe]) (by simp [results, Try.results9, go_sem, k0, k1, k2, k3, k4, k5, k6, k7, k8, k9, k10, k11, k12, aggX]) rfl ?_
 refine ⟨tz, _, pa, pe, rfl, .nil, HE9, ?_⟩
 rw [HPR.out]
 show (if pe = 0 then _ else _)
 rw [if_neg HP0.out]
 exact ⟨rfl, HP0.out⟩
set_option maxRecDepth 100000 in
theorem rformula_ok (s : ByteArray) (w : World) (l : List UInt8) (hl : s.data.toList = l) (hs : s.size ≤ maxLen) (h0 : (lexR l).2.2 = 0) : Calls Try.prog 9 #[.string s] w (RFormQ w l) := by
 have c1 := qwords_any s (w.alloc (.cells #[.int .i64 0, .int .i64 0, .string ⟨#[]⟩, .int .i64 0, .int .i64 0, .int .i64 0, .bool false, .bool false, .int .i64 0, .int .i64 0, .bool false, .bool false, .slice none 0 0] 29)) hs
 rw [hl] at c1
 obtain ⟨ts, hl300, hW, hlex⟩ := lexR_cases l |>.resolve_right (by rintro ⟨p, c, h1, h2, _⟩; rw [h1] at h0; simp only [] at h0; omega)
 have HPR : Hid (parR l = prs ts) := by show _ = _; unfold parR; rw [if_pos h0, hlex]
 have HTS : Hid (Nz ts ∧ (∀ t ∈ ts, Kd t) ∧ ts.length ≤ 400) := ⟨W_nz hW, fun t ht => ⟨Nat.le_trans (W_len l.length l 0 ts (Nat.le_refl _) hW t ht) hl300, W_kd l.length l 0 ts (Nat.le_refl _) hW t ht⟩, by have := (W_count l.length l 0 ts (Nat.le_refl _) hW).1; omega⟩
 unfold WordsQ at c1
 rw [hlex] at c1
 clear hl300 hW hlex h0 hl
 go_enter Try.func9, Try.ntmps9
 go_wp2_with fail
 refine c1.mono ?_
 rintro e w1 ⟨v, rfl, hR, E1⟩
 obtain ⟨tp, tc, hv, htc⟩ := hR.form
 obtain ⟨tb, off, t0, htp, _⟩ := (hv ▸ hR).at (k := 0) (by have := HTS.out.1.pos; omega)
 subst htp
 obtain ⟨tn, htn⟩ : ∃ tn, ts.length = tn := ⟨_, rfl⟩
 rw [htn] at hv
 subst hv
 have hw1 : w.heap.size + 1 ≤ w1.heap.size := by have := E1.size; simp at this; omega
 have HB : Hid (BlkX w1 w.heap.size tz (.slice none 0 0) ∧ Ext w w1 ∧ RdT w1 (.slice (some ⟨tb, off, none⟩) tn tc) ts ∧ ts.length = tn) := ⟨BlkX.top rfl E1, ((Ext.refl w).alloc _).trans E1, hR, htn⟩
 clear c1 hR E1 htc htn
 go_wp2_with fail
 have E2 : Ext w1 (w1.alloc (.cells #[.slice (some ⟨tb, off, none⟩) tn tc, .int .i64 0, .int .i64 0, .int .i64 0, .int .i64 0] 59)) := (Ext.refl _).alloc _
 have hz2 : w1.heap.size < (w1.alloc (.cells #[.slice (some ⟨tb, off, none⟩) tn tc, .int .i64 0, .int .i64 0, .int .i64 0, .int .i64 0] 59)).heap.size := by simp
 have R2 : Rp w1 w1.heap.size (w1.alloc (.cells #[.slice (some ⟨tb, off, none⟩) tn tc, .int .i64 0, .int .i64 0, .int .i64 0, .int .i64 0] 59)) ts ((0 : Nat) : Int) 0 0 := ⟨E2, Nat.le_refl _, HTS.out.1, HTS.out.2.2, HTS.out.2.1, by decide, by decide, tb, off, tc, tn, 0, ts, HB.out.2.2.1, HB.out.2.2.2, by have := HTS.out.2.2; have := HB.out.2.2.2; omega, by have := HTS.out.1.pos; have := HB.out.2.2.2; omega, rfl, blk5_top rfl (Ext.refl _)⟩
 have c2 := reader_all w1 w1.heap.size ts.length (w1.alloc (.cells #[.slice (some ⟨tb, off, none⟩) tn tc, .int .i64 0, .int .i64 0, .int .i64 0, .int .i64 0] 59)) ts 0 0 1 R2 (Nat.le_refl _) (by omega) (by omega) (by omega)
 have H2 : Hid (BlkX (w1.alloc (.cells #[.slice (some ⟨tb, off, none⟩) tn tc, .int .i64 0, .int .i64 0, .int .i64 0, .int .i64 0] 59)) w.heap.size tz (.slice none 0 0) ∧ Ext w (w1.alloc (.cells #[.slice (some ⟨tb, off, none⟩) tn tc, .int .i64 0, .int .i64 0, .int .i64 0, .int .i64 0] 59))) := ⟨HB.out.1.ext E2, HB.out.2.1.trans E2⟩
 clear R2 E2
 generalize (w1.alloc (.cells #[.slice (some ⟨tb, off, none⟩) tn tc, .int .i64 0, .int .i64 0, .int .i64 0, .int .i64 0] 59)) = W2 at *
 refine c2.mono ?_
 intro e w3 h3
 obtain ⟨x, p, ln, c, rfl, hY⟩ := h3.form
 obtain ⟨us, d2, pa2, why2, R3, hd2, hd3, HY⟩ := hY.state (by decide)
 have H3 : Hid (BlkX w3 w.heap.size tz (.slice none 0 0) ∧ Ext w w3 ∧ Rp w1 w1.heap.size w3 us d2 pa2 why2 ∧ w.heap.size + 1 ≤ W2.heap.size) := ⟨H2.out.1.extB hY.1 (by omega), hY.1.ext H2.out.2 (by omega), R3, by omega⟩
 have hw3 : w1.heap.size < w3.heap.size := R3.lt.1
 clear h3 hY c2 hd2 hd3 R3
 unfold aggX
 have E4 : Ext w3 (w3.alloc (.cells #[.int .i64 x.k, .int .i64 x.n, .string (bs x.s), .int .i64 x.e, .int .i64 x.r.1, .int .i64 x.r.2.1, .bool x.r.2.2.1, .bool x.r.2.2.2, .int .i64 x.q.1, .int .i64 x.q.2.1, .bool x.q.2.2.1, .bool x.q.2.2.2, .slice p ln c] 29)) := (Ext.refl _).alloc _
 have B4 : BlkX (w3.alloc (.cells #[.int .i64 x.k, .int .i64 x.n, .string (bs x.s), .int .i64 x.e, .int .i64 x.r.1, .int .i64 x.r.2.1, .bool x.r.2.2.1, .bool x.r.2.2.2, .int .i64 x.q.1, .int .i64 x.q.2.1, .bool x.q.2.2.1, .bool x.q.2.2.2, .slice p ln c] 29)) w3.heap.size x (.slice p ln c) := blk13_top rfl (Ext.refl _)
 have H4 : Hid (BlkX (w3.alloc (.cells #[.int .i64 x.k, .int .i64 x.n, .string (bs x.s), .int .i64 x.e, .int .i64 x.r.1, .int .i64 x.r.2.1, .bool x.r.2.2.1, .bool x.r.2.2.2, .int .i64 x.q.1, .int .i64 x.q.2.1, .bool x.q.2.2.1, .bool x.q.2.2.2, .slice p ln c] 29)) w.heap.size tz (.slice none 0 0) ∧ Ext w (w3.alloc (.cells #[.int .i64 x.k, .int .i64 x.n, .string (bs x.s), .int .i64 x.e, .int .i64 x.r.1, .int .i64 x.r.2.1, .bool x.r.2.2.1, .bool x.r.2.2.2, .int .i64 x.q.1, .int .i64 x.q.2.1, .bool x.q.2.2.1, .bool x.q.2.2.2, .slice p ln c] 29)) ∧ Rp w1 w1.heap.size (w3.alloc (.cells #[.int .i64 x.k, .int .i64 x.n, .string (bs x.s), .int .i64 x.e, .int .i64 x.r.1, .int .i64 x.r.2.1, .bool x.r.2.2.1, .bool x.r.2.2.2, .int .i64 x.q.1, .int .i64 x.q.2.1, .bool x.q.2.2.1, .bool x.q.2.2.2, .slice p ln c] 29)) us d2 pa2 why2 ∧ BlkX (w3.alloc (.cells #[.int .i64 x.k, .int .i64 x.n, .string (bs x.s), .int .i64 x.e, .int .i64 x.r.1, .int .i64 x.r.2.1, .bool x.r.2.2.1, .bool x.r.2.2.2, .int .i64 x.q.1, .int .i64 x.q.2.1, .bool x.q.2.2.1, .bool x.q.2.2.2, .slice p ln c] 29)) w3.heap.size x (.slice p ln c) ∧ Ext w3 (w3.alloc (.cells #[.int .i64 x.k, .int .i64 x.n, .string (bs x.s), .int .i64 x.e, .int .i64 x.r.1, .int .i64 x.r.2.1, .bool x.r.2.2.1, .bool x.r.2.2.2, .int .i64 x.q.1, .int .i64 x.q.2.1, .bool x.q.2.2.1, .bool x.q.2.2.2, .slice p ln c] 29))) := ⟨H3.out.1.ext E4, H3.out.2.1.trans E4, H3.out.2.2.1.ext E4, B4, E4⟩
 have c3 := rt_any H4.out.2.2.1
 unfold tkA at c3
 have kf0 := fun W => tkf0 (hd us) W
 obtain ⟨u, hu⟩ : ∃ u, hd us = u := ⟨_, rfl⟩
 have HU : Hid (hd us = u) := hu
 rw [hu] at c3 kf0
 clear E4 B4 hu
 go_wp2_with fail
 refine c3.mono ?_
 rintro e w5 ⟨rfl, E5⟩
 have H5 : Hid (BlkX w5 w.heap.size tz (.slice none 0 0) ∧ Ext w w5 ∧ Rp w1 w1.heap.size w5 us d2 pa2 why2 ∧ BlkX w5 w3.heap.size x (.slice p ln c) ∧ Ext w3 w5) := ⟨H4.out.1.ext E5, H4.out.2.1.trans E5, H4.out.2.2.1.ext E5, H4.out.2.2.2.1.ext E5, H4.out.2.2.2.2.trans E5⟩
 have hw5 : w3.heap.size < w5.heap.size := H5.out.2.2.2.1.1
 clear c3 E5
 by_cases h5 : u.1 = 5
 · have n5 : (u.1 != 5) = false := by rw [h5]; rfl
   have H55 : Hid (u.1 = 5) := h5
   clear h5
   by_cases hw : why2 = 0
   · have w0' : (why2 != 0) = false := by rw [hw]; rfl
     have HW : Hid (why2 = 0) := hw
     have HB0 := H5.out.1
     obtain ⟨qa, ⟨la0, la1, la2, la3, la4, la5, la6, la7, la8, la9, la10, la11, la12⟩, ga0, ga1, ga2, ga3, ga4, ga5, ga6, ga7, ga8, ga9, ga10, ga11, ga12⟩ := HB0
     have HB1 := H5.out.2.2.2.1
     obtain ⟨qc, ⟨lc0, lc1, lc2, lc3, lc4, lc5, lc6, lc7, lc8, lc9, lc10, lc11, lc12⟩, gc0, gc1, gc2, gc3, gc4, gc5, gc6, gc7, gc8, gc9, gc10, gc11, gc12⟩ := HB1
     have HR5 := H5.out.2.2.1
     obtain ⟨g0, g1, g2, g3, g4, g5, g6, tb, off, cc, nn, ii, all, u1, u2, u3, u4, u5, u6⟩ := HR5
     obtain ⟨hz, ⟨b0, b1, b2, b3, b4⟩, f0, f1, f2, f3, f4⟩ := u6
     clear g0 g1 g2 g3 g4 g5 g6 u1 u2 u3 u4 u5
     clear hw
     go_wp2_with fail
     have HB9 := H5.out.1
     have HX9 := H5.out.2.1
     show bodyPost Try.prog _ _ _ _ (putX w5 w.heap.size (x) (.slice p ln c))
     obtain ⟨z, ⟨k0, k1, k2, k3, k4, k5, k6, k7, k8, k9, k10, k11, k12⟩, ff⟩ := HB9.put (x) (.slice p ln c)
     have HE9 := putX_E HX9 (Nat.le_refl w.heap.size) (x) (.slice p ln c)
     refine bodyPost_ret (v := .tuple #[aggX (x) (.slice p ln c), .int .i64 0, .int .i64 0]) (by simp [results, Try.results9, go_sem, k0, k1, k2, k3, k4, k5, k6, k7, k8, k9, k10, k11, k12, aggX]) rfl ?_
     have hpr : prs ts = (x, 0, 0) ∧ IsL w3 (W2.heap.size ≤ ·) (.slice p ln c) x.l := by
       rcases HY.out with ⟨_, _, y3, y4⟩ | ⟨y1, _⟩
       · rcases prs_cases ts with ⟨x', ts1, q1, q2, q3⟩ | ⟨x', ts1, q1, q2, _⟩ | ⟨f, q1, _⟩
         · rw [y3] at q1; cases q1; exact ⟨q3, y4⟩
         · rw [y3] at q1; cases q1; exact absurd (by rw [HU.out]; exact H55.out) q2
         · rw [y3] at q1; cases q1
       · exact absurd HW.out y1
     refine ⟨x, _, 0, 0, rfl, ?_, HE9, ?_⟩
     · exact ((hpr.2.ext H5.out.2.2.2.2).keep (by rw [putX_size]; exact Nat.le_refl _) (fun j hj hs => putX_heap _ _ _ _ _ (by have := H3.out.2.2.2; omega)) (fun j hj _ => hj)).mono (fun j hj _ => by have := H3.out.2.2.2; omega)
     · rw [HPR.out, hpr.1]
       exact ⟨rfl, rfl, rfl⟩
   · have w0' : (why2 != 0) = true := by simpa using hw
     have HW : Hid (why2 ≠ 0) := hw
     have HB0 := H5.out.1
     obtain ⟨qa, ⟨la0, la1, la2, la3, la4, la5, la6, la7, la8, la9, la10, la11, la12⟩, ga0, ga1, ga2, ga3, ga4, ga5, ga6, ga7, ga8, ga9, ga10, ga11, ga12⟩ := HB0
     have HR5 := H5.out.2.2.1
     obtain ⟨g0, g1, g2, g3, g4, g5, g6, tb, off, cc, nn, ii, all, u1, u2, u3, u4, u5, u6⟩ := HR5
     obtain ⟨hz, ⟨b0, b1, b2, b3, b4⟩, f0, f1, f2, f3, f4⟩ := u6
     clear g0 g1 g2 g3 g4 g5 g6 u1 u2 u3 u4 u5
     clear hw
     go_wp2_with fail
     go_region
     go_wp2_with fail
     have HB9 := H5.out.1
     have HX9 := H5.out.2.1
     show bodyPost Try.prog _ _ _ _ (putX w5 w.heap.size tz (.slice none 0 0)).drew
     obtain ⟨z, ⟨k0, k1, k2, k3, k4, k5, k6, k7, k8, k9, k10, k11, k12⟩, ff⟩ := (HB9.put tz (.slice none 0 0)).ext (Ext.refl _).drew
     have HE9 := putX_E HX9 (Nat.le_refl w.heap.size) tz (.slice none 0 0)
     refine bodyPost_ret (v := .tuple #[aggX tz (.slice none 0 0), .int .i64 pa2, .int .i64 why2]) (by simp [results, Try.results9, go_sem, k0, k1, k2, k3, k4, k5, k6, k7, k8, k9, k10, k11, k12, aggX]) rfl ?_
     have hpr : (prs ts).2.2 ≠ 0 := by
       rcases HY.out with ⟨y1, _⟩ | ⟨_, ⟨f, y2⟩, _⟩
       · exact absurd y1 HW.out
       · rcases prs_cases ts with ⟨x', ts1, q1, q2, q3⟩ | ⟨x', ts1, q1, q2, _⟩ | ⟨f, q1, q2⟩
         · rw [y2] at q1; cases q1
         · rw [y2] at q1; cases q1
         · exact q2
     refine ⟨tz, _, pa2, why2, rfl, .nil, HE9.drew, ?_⟩
     rw [HPR.out, if_neg hpr]
     exact ⟨rfl, HW.out⟩
 · have n5 : (u.1 != 5) = true := by simpa using h5
   have H55 : Hid (u.1 ≠ 5) := h5
   clear h5
   go_wp2_with fail
   refine (rbad_any H5.out.2.2.1 4).mono ?_
   rintro e w6 ⟨rfl, R6, X6⟩
   obtain ⟨pa6, hpa6⟩ : ∃ pa6, (if why2 = 0 then (hd us).2.1 else pa2) = pa6 := ⟨_, rfl⟩
   obtain ⟨why6, hwhy6⟩ : ∃ why6, (if why2 = 0 then (4 : Int) else why2) = why6 := ⟨_, rfl⟩
   have hwn : why6 ≠ 0 := by rw [← hwhy6]; split <;> omega
   rw [hpa6, hwhy6] at R6
   have H6 : Hid (BlkX w6 w.heap.size tz (.slice none 0 0) ∧ Ext w w6) := ⟨H5.out.1.extB X6 (by omega), X6.ext H5.out.2.1 (by omega)⟩
   have w0' : (why6 != 0) = true := by simpa using hwn
   have HW : Hid (why6 ≠ 0) := hwn
   have HB0 := H6.out.1
   obtain ⟨qa, ⟨la0, la1, la2, la3, la4, la5, la6, la7, la8, la9, la10, la11, la12⟩, ga0, ga1, ga2, ga3, ga4, ga5, ga6, ga7, ga8, ga9, ga10, ga11, ga12⟩ := HB0
   have HR6 := R6
   obtain ⟨g0, g1, g2, g3, g4, g5, g6, tb, off, cc, nn, ii, all, u1, u2, u3, u4, u5, u6⟩ := HR6
   obtain ⟨hz, ⟨b0, b1, b2, b3, b4⟩, f0, f1, f2, f3, f4⟩ := u6
   clear g0 g1 g2 g3 g4 g5 g6 u1 u2 u3 u4 u5
   clear hwn R6 X6 hpa6 hwhy6
   go_wp2_with fail
   go_region
   go_wp2_with fail
   have HB9 := H6.out.1
   have HX9 := H6.out.2
   show bodyPost Try.prog _ _ _ _ (putX w6 w.heap.size tz (.slice none 0 0)).drew
   obtain ⟨z, ⟨k0, k1, k2, k3, k4, k5, k6, k7, k8, k9, k10, k11, k12⟩, ff⟩ := (HB9.put tz (.slice none 0 0)).ext (Ext.refl _).drew
   have HE9 := putX_E HX9 (Nat.le_refl w.heap.size) tz (.slice none 0 0)
   refine bodyPost_ret (v := .tuple #[aggX tz (.slice none 0 0), .int .i64 pa6, .int .i64 why6]) (by simp [results, Try.results9, go_sem, k0, k1, k2, k3, k4, k5, k6, k7, k8, k9, k10, k11, k12, aggX]) rfl ?_
   have hpr : (prs ts).2.2 ≠ 0 := by
     rcases HY.out with ⟨_, _, y3, y4⟩ | ⟨_, ⟨f, y2⟩, _⟩
     · rcases prs_cases ts with ⟨x', ts1, q1, q2, q3⟩ | ⟨x', ts1, q1, q2, q3⟩ | ⟨f, q1, _⟩
       · rw [y3] at q1; cases q1; exact absurd (by rw [← HU.out]; exact q2) H55.out
       · exact q3
       · rw [y3] at q1; cases q1
     · rcases prs_cases ts with ⟨x', ts1, q1, q2, q3⟩ | ⟨x', ts1, q1, q2, _⟩ | ⟨f, q1, q2⟩
       · rw [y2] at q1; cases q1
       · rw [y2] at q1; cases q1
       · exact q2
   refine ⟨tz, _, pa6, why6, rfl, .nil, HE9.drew, ?_⟩
   rw [HPR.out, if_neg hpr]
   exact ⟨rfl, HW.out⟩
theorem rformula_any (s : ByteArray) (w : World) (hs : s.size ≤ maxLen) : Calls Try.prog 9 #[.string s] w (RFormQ w s.data.toList) := by
 by_cases h0 : (lexR s.data.toList).2.2 = 0
 · exact rformula_ok s w _ rfl hs h0
 · exact rformula_bad s w _ rfl hs h0
open Go.RowKit
set_option maxHeartbeats 1000000
def nB (b : Bool) : Int := if b then 1 else 0
def tfL (b : Bool) : List UInt8 := if b then wTrue else wFalse
theorem rb9_any (b : Bool) (w : World) : Calls Try.prog 40 #[.bool b] w fun r w' => r = .returned (.agg #[.int .i64 1, .int .i64 (nB b), .string ⟨#[]⟩, .int .i64 0]) ∧ Ext w w' := by
 cases b
 all_goals
   go_enter Try.func40, Try.ntmps40
   go_wp2_with fail
   simp [bodyPost, results, Try.results40, go_sem, nB]
   exact (Ext.refl _).alloc _
theorem rn9_any (b : Bool) (w : World) : Calls Try.prog 60 #[.agg #[.int .i64 1, .int .i64 (nB b), .string ⟨#[]⟩, .int .i64 0]] w fun r w' => r = .returned (.agg #[.int .i64 1, .int .i64 (nB b), .string ⟨#[]⟩, .int .i64 0]) ∧ Ext w w' := by
 have c1 := fun W => rb9_any b W
 have hb : (nB b != 0) = b := by cases b <;> rfl
 generalize nB b = q1 at *
 go_enter Try.func60, Try.ntmps60
 go_wp2_with fail
 refine (c1 _).mono ?_
 rintro r w1 ⟨rfl, E1⟩
 obtain ⟨z, ⟨k0, k1, k2, k3⟩, f0, f1, f2, f3⟩ := blk_top (b := w.heap.size + 1) (by simp) E1
 have HE : Hid (Ext w w1) := (((Ext.refl _).alloc _).alloc _).trans E1
 clear E1
 go_wp2_with fail
 exact fin4 k0 k1 k2 k3 rfl (by simp) HE.out (fun W g0 g1 g2 g3 => by simp [results, Try.results60, go_sem, g0, g1, g2, g3]) (fun W h => ⟨rfl, h⟩)
theorem rs9_any (b : Bool) (w : World) : Calls Try.prog 39 #[.agg #[.int .i64 1, .int .i64 (nB b), .string ⟨#[]⟩, .int .i64 0]] w fun r w' => r = .returned (.string (bs (tfL b))) ∧ Ext w w' := by
 have c0 := fun W => rn9_any b W
 cases b
 all_goals
   simp only [nB, Bool.false_eq_true, if_false, if_true] at c0 ⊢
   go_enter Try.func39, Try.ntmps39
   go_wp2_with fail
   refine (c0 _).mono ?_
   rintro r w1 ⟨rfl, E1⟩
   have X1 : Hid (Ext w w1) := ((Ext.refl _).alloc _).trans E1
   obtain ⟨z, ⟨k0, k1, k2, k3⟩, f0, f1, f2, f3⟩ := blk_top (b := w.heap.size) (by simp) E1
   clear E1
   go_wp2_with fail
   go_ret
   exact ⟨rfl, (((X1.out.setCell (by simp) _).setCell (by simp) _).setCell (by simp) _).setCell (by simp) _⟩
theorem rerr9_any (e : Int) (h : 1 ≤ e ∧ e ≤ 5) (w : World) : Calls Try.prog 41 #[.int .i64 e] w fun r w' => r = .returned (.string (bs (errL e))) ∧ w' = w := by
 have hh : e = 1 ∨ e = 2 ∨ e = 3 ∨ e = 4 ∨ e = 5 := by omega
 rcases hh with rfl | rfl | rfl | rfl | rfl
 all_goals
   clear h
   go_enter Try.func41, Try.ntmps41
   go_wp2_with fail
   go_ret
   exact ⟨rfl, rfl⟩
open Go.RowKit
set_option maxHeartbeats 4000000
theorem quoB_app (a b : List UInt8) : quoB (a ++ b) = quoB a ++ quoB b := by
 induction a with
 | nil => rfl
 | cons c r ih => rw [List.cons_append, quoB, quoB, ih]; split <;> simp
theorem owb_one (W : World) (base : Nat) (c : UInt8) (h : base ≤ W.heap.size) : OwB (W.alloc (.cells #[.int .u8 (c.toNat : Int)] 5)) base (.slice (some ⟨W.heap.size, 0, none⟩) 1 1) [c] :=
 ⟨⟨_, _, rfl⟩, rfl, .inr ⟨W.heap.size, 1, #[.int .u8 (c.toNat : Int)], rfl, h, by show (W.heap.push _)[W.heap.size]? = _; simp, Nat.le_refl _, by unfold maxLen; omega, rfl, rfl⟩⟩
set_option maxRecDepth 100000 in
theorem quoted_any (s : ByteArray) (w : World) (hs : s.size ≤ 300) :
   Calls Try.prog 38 #[.string s] w fun e w' => e = .returned (.string (bs (quoL s.data.toList))) ∧ Ext w w' := by
 have hl := size_list s
 obtain ⟨l, hll⟩ : ∃ l, s.data.toList = l := ⟨_, rfl⟩
 have HL : Hid (l.length = s.size) := by show _ = _; rw [← hll]; exact hl
 have HA : Hid (∀ i (h : i < s.size), l[i]? = some s[i]) := by intro i h; subst hll; exact List.getElem?_eq_getElem (by rw [hl]; exact h)
 have HB : Hid (∀ j, (quoB (l.take j)).length ≤ 600) := by intro j; have h1 := quoB_len (l.take j); have h2 := HL.out; rw [List.length_take] at h1; omega
 rw [hll]
 clear hl hll
 go_enter Try.func38, Try.ntmps38
 go_wp2_with fail
 go_loopw [3, 4] (fun v i wr => ∃ (j : Nat), j ≤ s.size ∧ i = .int .i64 (j : Int) ∧ OwB wr w.heap.size v (34 :: quoB (l.take j)) ∧ Ext w wr) (fun _ i _ => s.size - (intOf i).toNat)
 case atStart => exact ⟨0, Nat.zero_le _, rfl, by have := owb_one w w.heap.size 34 (Nat.le_refl _); simpa [quoB] using this, (Ext.refl _).alloc _⟩
 case round =>
   obtain ⟨j, hj, rfl, hO, hE⟩ := hrel
   obtain ⟨⟨g, cap, rfl⟩, hO2⟩ := hO
   have HO : Hid (OwB wr w.heap.size (.slice (some ⟨g, 0, none⟩) (34 :: quoB (l.take j)).length cap) (34 :: quoB (l.take j)) ∧ Ext w wr) := ⟨⟨⟨g, cap, rfl⟩, hO2⟩, hE⟩
   clear hO2 hE
   have hq := HB.out j
   obtain ⟨acc, hacc⟩ : ∃ acc, 34 :: quoB (l.take j) = acc := ⟨_, rfl⟩
   have HAC : Hid (34 :: quoB (l.take j) = acc) := hacc
   have hal : acc.length ≤ 601 := by rw [← hacc, List.length_cons]; omega
   rw [hacc] at HO
   simp only [hacc]
   clear hq hacc
   by_cases hlt : j < s.size
   · have hltI : (j : Int) < (s.size : Int) := by omega
     have hb := byte_ne (c := s[j]) 34 (by omega)
     have HX1 : Hid (l.take (j + 1) = l.take j ++ [s[j]]) := by show _ = _; rw [List.take_add_one, HA.out j hlt]; rfl
     by_cases h1 : s[j] = 34
     · have tb : (((s[j]).toNat : Int) == 34) = true := by rw [show (34 : Int) = ((34 : Nat) : Int) from rfl, hb, h1]; rfl
       have HX : Hid (34 :: quoB (l.take (j + 1)) = acc ++ [34] ++ [s[j]]) := by show _ = _; rw [HX1.out, quoB_app, ← HAC.out, h1]; simp [quoB]
       clear hb h1
       go_wp2_with (at_builtin; refine ob_append w _ w.heap.size rfl _ _ _ _ acc 34 rfl rfl (by rfl) (by rfl) (HO.out.1.alloc _) (by simp) (by omega) (HO.out.2.alloc _) ?_)
       intro v' w2 k1 k2
       obtain ⟨⟨g2, cap2, rfl⟩, k3⟩ := k1
       have HO2 : Hid (OwB w2 w.heap.size (.slice (some ⟨g2, 0, none⟩) (acc ++ [34]).length cap2) (acc ++ [34]) ∧ Ext w w2) := ⟨⟨⟨g2, cap2, rfl⟩, k3⟩, k2⟩
       obtain ⟨ac2, hac2⟩ : ∃ ac2, acc ++ [34] = ac2 := ⟨_, rfl⟩
       have hal2 : ac2.length ≤ 602 := by rw [← hac2, List.length_append]; simp; omega
       rw [hac2] at HO2 HX
       simp only [hac2]
       clear k2 k3 hac2
       go_wp2_with (at_builtin; refine ob_append w _ w.heap.size rfl _ _ _ _ ac2 s[j] rfl rfl (by rfl) (by rfl) (HO2.out.1.alloc _) (by simp) (by omega) (HO2.out.2.alloc _) ?_)
       intro v' w3 k1 k2
       have HO3 : Hid (OwB w3 w.heap.size v' (ac2 ++ [s[j]]) ∧ Ext w w3) := ⟨k1, k2⟩
       clear k1 k2
       go_wp2_with fail
       go_roundw
       case rel => exact ⟨j + 1, by omega, by go_num, by rw [HX.out]; exact HO3.out.1, HO3.out.2⟩
       case measure => show s.size - ((j : Int) + 1).toNat < s.size - ((j : Int)).toNat; omega
     · have tb : (((s[j]).toNat : Int) == 34) = false := by rw [show (34 : Int) = ((34 : Nat) : Int) from rfl, hb]; simpa using h1
       have HX : Hid (34 :: quoB (l.take (j + 1)) = acc ++ [s[j]]) := by show _ = _; rw [HX1.out, quoB_app, ← HAC.out]; simp [quoB, h1]
       clear hb h1
       go_wp2_with (at_builtin; refine ob_append w _ w.heap.size rfl _ _ _ _ acc s[j] rfl rfl (by rfl) (by rfl) (HO.out.1.alloc _) (by simp) (by omega) (HO.out.2.alloc _) ?_)
       intro v' w3 k1 k2
       have HO3 : Hid (OwB w3 w.heap.size v' (acc ++ [s[j]]) ∧ Ext w w3) := ⟨k1, k2⟩
       clear k1 k2
       go_wp2_with fail
       go_roundw
       case rel => exact ⟨j + 1, by omega, by go_num, by rw [HX.out]; exact HO3.out.1, HO3.out.2⟩
       case measure => show s.size - ((j : Int) + 1).toNat < s.size - ((j : Int)).toNat; omega
   · have hltI : ¬ (j : Int) < (s.size : Int) := by omega
     have HX : Hid (quoL l = acc ++ [34]) := by
       show _ = _
       have : l.take j = l := List.take_of_length_le (by have := HL.out; omega)
       rw [← HAC.out, this]; rfl
     clear hlt
     go_wp2_with (at_builtin; refine ob_append w _ w.heap.size rfl _ _ _ _ acc 34 rfl rfl (by rfl) (by rfl) (HO.out.1.alloc _) (by simp) (by omega) (HO.out.2.alloc _) ?_)
     intro v' w3 k1 k2
     have hcv := k1.conv
     have HE3 : Hid (Ext w w3) := k2
     rw [← HX.out] at hcv
     obtain ⟨q, hq⟩ : ∃ q, bs (quoL l) = q := ⟨_, rfl⟩
     rw [hq] at hcv
     have HQ : Hid (bs (quoL l) = q) := hq
     clear k1 k2 hq
     go_wp2_with fail
     go_ret
     exact ⟨ret_s HQ.out.symm, HE3.out⟩
open Go.RowKit
set_option maxHeartbeats 1000000
open Go.RowKit
set_option maxHeartbeats 2000000
def Ok9 (b : Nat) (w w' : World) : Prop := Lib.OthersKept 5 (some b) w w' ∧ w.heap.size ≤ w'.heap.size
theorem Ok9.trans {b : Nat} {x y z : World} (h : Ok9 b x y) (k : Ok9 b y z) : Ok9 b x z := ⟨h.1.trans k.1, Nat.le_trans h.2 k.2⟩
theorem Ok9.refl (b : Nat) (w : World) : Ok9 b w w := ⟨Lib.OthersKept.refl _ _ _, Nat.le_refl _⟩
open Go.RowKit
set_option maxHeartbeats 6000000
theorem joinL_snoc (ls : List (List UInt8)) (a : List UInt8) (h : ls ≠ []) : joinL (ls ++ [a]) = joinL ls ++ 44 :: a := by
 match ls, h with
 | [x], _ => rfl
 | x :: y :: r, _ =>
   have ih := joinL_snoc (y :: r) a (by simp)
   show x ++ 44 :: joinL (y :: r ++ [a]) = (x ++ 44 :: joinL (y :: r)) ++ 44 :: a
   rw [ih]; simp
open Go.RowKit
end Go.Proofs.Ytjhmbkdkjgjoaaa
