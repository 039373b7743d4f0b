/-
 The contract of argument.
-/
import Derived.Test.YtcggiljlilbdfaaGreatDoorQ19
namespace Go.Proofs.YtcggiljlilbdfaaGreatDoor
open Go.RowKit
set_option maxHeartbeats 6000000

theorem PF.cases {w0 : World} {b : Nat} {w : World} {d : Nat} {r : Except Ft (Rf × List Tk)} {e : Ending} {w' : World} (h : PF w0 b w d r e w') :
   (∃ f, r = .error f ∧ e = pft f ∧ ExtB b w w') ∨ (∃ r0 r1 r2 r3 ts, r = .ok ((r0, r1, r2, r3), ts) ∧ e = .returned (.agg #[.int .i64 r0, .int .i64 r1, .bool r2, .bool r3]) ∧ Stt w0 b w' ts d ∧ ExtB b w w') := by
 cases r with
 | error f => exact .inl ⟨f, rfl, h.1, h.2⟩
 | ok a => obtain ⟨⟨r0, r1, r2, r3⟩, ts⟩ := a; exact .inr ⟨r0, r1, r2, r3, ts, rfl, h.1, h.2.1, h.2.2⟩
theorem PR.cases {w0 : World} {b : Nat} {w : World} {d : Nat} {r : Rs} {e : Ending} {w' : World} (h : PR w0 b w d r e w') :
   (∃ f, r = .error f ∧ e = pft f ∧ ExtB b w w') ∨ (∃ x ts pp ln cl, r = .ok (x, ts) ∧ e = .returned (aggX x (.slice pp ln cl)) ∧ IsL w' (w.heap.size ≤ ·) (.slice pp ln cl) x.l ∧ Stt w0 b w' ts d ∧ ExtB b w w') := by
 cases r with
 | error f => exact .inl ⟨f, rfl, h.1, h.2⟩
 | ok a =>
   obtain ⟨x, ts⟩ := a
   obtain ⟨⟨lv, h1, h2⟩, h3, h4⟩ := h
   obtain ⟨p, c, h5, _⟩ := h2.form
   subst h5
   exact .inr ⟨x, ts, p, x.l.length, c, rfl, h1, h2, h3, h4⟩
/-- A method of the reader reads as F does, of lists up to so long. -/
def RdF (w0 : World) (b n : Nat) (F : Rd) (K : FuncId) : Prop := ∀ w ts d, Stt w0 b w ts d → ts.length ≤ n → Calls Tryz.prog K #[.pointer (some ⟨b, 0, none⟩)] w (PR w0 b w d (F d ts))
set_option maxRecDepth 100000 in
theorem argument_any (w0 : World) (b d n : Nat) (F : Rd) (ts : List Tk) (w : World) (hF : RdF w0 b n F 27) (hT : Tab w0) (h : Stt w0 b w ts d) (hn : ts.length ≤ n) :
   Calls Tryz.prog 165 #[.pointer (some ⟨b, 0, none⟩)] w (PR w0 b w d (argm F d ts)) := by
 have h3 := h.2.2.1
 have HS : Hid (Stt w0 b w ts d) := h
 have HZ : Hid (w0.heap.size ≤ w.heap.size) := h.1.sz
 have HT : Hid (Tab w0) := hT
 obtain ⟨tb, off, cc, b0, z0, b1, z1, t0, t1, t2, t3, t4, hne, hc, hp, hs⟩ := h.get
 have hlen : ts.length ≤ 400 := h.2.2.2.2.2.2.1
 have hg0 : w.heap.size ≠ b := by omega
 have HX : Hid (argm F d ts = (F d ts).bind fun a => if a.1.k = 4 ∧ ts.length = a.2.length + 1 ∧ isSg [58] a.2 = true then ((tk1 d a.2).bind fun ts2 => (refr d ts2).bind fun b => .ok (tRange a.1.r b.1, b.2)) else .ok a) := argm_eq F d ts
 have c1 := hF (w.alloc (.cells #[.int .i64 0, .int .i64 0, .string ⟨#[]⟩, .int .i64 0, .int .i64 0, .int .i64 0, .bool false, .bool false, .int .i64 0, .int .i64 0, .bool false, .bool false, .slice none 0 0] 29)) ts d (h.ext ((Ext.refl _).alloc _)) hn
 have HB1 : Hid (BlkX (w.alloc (.cells #[.int .i64 0, .int .i64 0, .string ⟨#[]⟩, .int .i64 0, .int .i64 0, .int .i64 0, .bool false, .bool false, .int .i64 0, .int .i64 0, .bool false, .bool false, .slice none 0 0] 29)) w.heap.size tz (.slice none 0 0)) := BlkX.top rfl (Ext.refl _)
 have HE1 : Hid (ExtB b w (w.alloc (.cells #[.int .i64 0, .int .i64 0, .string ⟨#[]⟩, .int .i64 0, .int .i64 0, .int .i64 0, .bool false, .bool false, .int .i64 0, .int .i64 0, .bool false, .bool false, .slice none 0 0] 29)) ∧ (w.alloc (.cells #[.int .i64 0, .int .i64 0, .string ⟨#[]⟩, .int .i64 0, .int .i64 0, .int .i64 0, .bool false, .bool false, .int .i64 0, .int .i64 0, .bool false, .bool false, .slice none 0 0] 29)).heap.size = w.heap.size + 1) := ⟨(ExtB.refl b w).alloc _, by simp⟩
 obtain ⟨nn, hnn⟩ : ∃ nn, ts.length = nn := ⟨_, rfl⟩
 rw [hnn] at b0 hc hp hlen HX
 clear h t0 t1 t2 t3 t4 b1 z1 hF hT hn
 cases hf : F d ts with
 | error f =>
   rw [hf] at c1 HX
   clear hf hnn
   go_enter Tryz.func165, Tryz.ntmps165
   go_wp2_with fail
   refine c1.mono ?_
   rintro e w2 ⟨rfl, E2⟩
   rw [HX.out]
   exact ⟨rfl, rfl, HE1.out.1.trans E2⟩
 | ok a =>
   obtain ⟨x, ts1⟩ := a
   rw [hf] at c1 HX
   clear hf
   go_enter Tryz.func165, Tryz.ntmps165
   go_wp2_with fail
   refine c1.mono ?_
   rintro e w2 ⟨⟨lv, rfl, hL⟩, S2, E2⟩
   clear c1
   simp only [] at hL S2
   obtain ⟨pp, cl, hlv, hcl⟩ := hL.form
   obtain ⟨ln, hln⟩ : ∃ ln, x.l.length = ln := ⟨_, rfl⟩
   rw [hln] at hlv
   subst hlv
   have hw2 : w.heap.size + 1 ≤ w2.heap.size := by rw [← HE1.out.2]; exact E2.size
   have hb2 : b < w2.heap.size := S2.2.2.1
   have hg2 : w2.heap.size ≠ b := by omega
   have HE2 : Hid (ExtB b w w2) := HE1.out.1.trans E2
   have HB2 : Hid (BlkX w2 w.heap.size tz (.slice none 0 0)) := HB1.out.extB E2 hg0
   have HL2 : Hid (IsL w2 (fun k => w.heap.size + 1 ≤ k ∧ k ≠ w2.heap.size) (.slice pp ln cl) x.l) := hL.mono (fun k hk hs => ⟨by rw [HE1.out.2] at hk; exact hk, by omega⟩)
   have HS2 : Hid (Stt w0 b w2 ts1 d) := S2
   have HSS : Hid (Stt w0 b (w2.alloc (.cells #[.int .i64 x.k, .int .i64 x.n, .string (bs x.s), .int .i64 x.e, .int .i64 x.r.1, .int .i64 x.r.2.1, .bool x.r.2.2.1, .bool x.r.2.2.2, .int .i64 x.q.1, .int .i64 x.q.2.1, .bool x.q.2.2.1, .bool x.q.2.2.2, .slice pp ln cl] 29)) ts1 d) := S2.ext ((Ext.refl _).alloc _)
   have HBX : Hid (BlkX (w2.alloc (.cells #[.int .i64 x.k, .int .i64 x.n, .string (bs x.s), .int .i64 x.e, .int .i64 x.r.1, .int .i64 x.r.2.1, .bool x.r.2.2.1, .bool x.r.2.2.2, .int .i64 x.q.1, .int .i64 x.q.2.1, .bool x.q.2.2.1, .bool x.q.2.2.2, .slice pp ln cl] 29)) w2.heap.size x (.slice pp ln cl)) := blk13_top rfl (Ext.refl _)
   have HB3 : Hid (BlkX (w2.alloc (.cells #[.int .i64 x.k, .int .i64 x.n, .string (bs x.s), .int .i64 x.e, .int .i64 x.r.1, .int .i64 x.r.2.1, .bool x.r.2.2.1, .bool x.r.2.2.2, .int .i64 x.q.1, .int .i64 x.q.2.1, .bool x.q.2.2.1, .bool x.q.2.2.2, .slice pp ln cl] 29)) w.heap.size tz (.slice none 0 0)) := HB2.out.ext ((Ext.refl _).alloc _)
   have HL3 : Hid (IsL (w2.alloc (.cells #[.int .i64 x.k, .int .i64 x.n, .string (bs x.s), .int .i64 x.e, .int .i64 x.r.1, .int .i64 x.r.2.1, .bool x.r.2.2.1, .bool x.r.2.2.2, .int .i64 x.q.1, .int .i64 x.q.2.1, .bool x.q.2.2.1, .bool x.q.2.2.2, .slice pp ln cl] 29)) (fun k => w.heap.size + 1 ≤ k ∧ k ≠ w2.heap.size) (.slice pp ln cl) x.l) := HL2.out.ext ((Ext.refl _).alloc _)
   have HE3 : Hid (ExtB b w (w2.alloc (.cells #[.int .i64 x.k, .int .i64 x.n, .string (bs x.s), .int .i64 x.e, .int .i64 x.r.1, .int .i64 x.r.2.1, .bool x.r.2.2.1, .bool x.r.2.2.2, .int .i64 x.q.1, .int .i64 x.q.2.1, .bool x.q.2.2.1, .bool x.q.2.2.2, .slice pp ln cl] 29))) := HE2.out.alloc _
   obtain ⟨tb', off', cc', b0', z0', b1', z1', t0', t1', t2', t3', t4', hne', hc', hp', hs'⟩ := S2.get
   have hlen1 : ts1.length ≤ 400 := S2.2.2.2.2.2.2.1
   obtain ⟨n1, hn1⟩ : ∃ n1, ts1.length = n1 := ⟨_, rfl⟩
   have HNN : Hid (ts1.length = n1) := hn1
   rw [hn1] at b0' hc' hp' hlen1
   have HX2 : Hid (argm F d ts = if x.k = 4 ∧ nn = n1 + 1 ∧ isSg [58] ts1 = true then ((tk1 d ts1).bind fun ts2 => (refr d ts2).bind fun b => .ok (tRange x.r b.1, b.2)) else .ok (x, ts1)) := by show _ = _; rw [HX.out, ← hn1]; rfl
   have c2 := isSign_any w0 b d ts1 ⟨#[58]⟩ _ HSS.out
   have e58 : (⟨#[58]⟩ : ByteArray).data.toList = [58] := rfl
   rw [e58] at c2
   clear S2 E2 hL hcl hln t0' t1' t2' t3' t4' b1' z1' hnn hn1 e58 HX HB1 HE1
   unfold aggX
   by_cases hk : x.k = 4
   · by_cases hl : nn = n1 + 1
     · have hlb : ((nn : Int) == (n1 : Int) + 1) = true := by rw [hl]; simp
       have hkb : (x.k == 4) = true := by rw [hk]; rfl
       cases hsg : isSg [58] ts1
       · have HX3 : Hid (argm F d ts = .ok (x, ts1)) := by show _ = _; rw [HX2.out, if_neg]; rw [hsg]; simp
         rw [hsg] at c2
         clear hl hk
         obtain ⟨qa, ⟨la0, la1, la2, la3, la4, la5, la6, la7, la8, la9, la10, la11, la12⟩, ga0, ga1, ga2, ga3, ga4, ga5, ga6, ga7, ga8, ga9, ga10, ga11, ga12⟩ := HB2.out
         go_wp2_with fail
         refine c2.mono ?_
         rintro e w3 ⟨rfl, E3⟩
         clear c2
         have HB4 : Hid (BlkX w3 w.heap.size tz (.slice none 0 0)) := HB3.out.ext E3
         have HBY := HBX.out.ext E3
         have HL4 : Hid (IsL w3 (fun k => w.heap.size + 1 ≤ k ∧ k ≠ w2.heap.size) (.slice pp ln cl) x.l) := HL3.out.ext E3
         have HS4 : Hid (Stt w0 b w3 ts1 d) := HSS.out.ext E3
         have HE4 : Hid (ExtB b w w3) := HE3.out.trans (E3.toB b)
         clear qa la0 la1 la2 la3 la4 la5 la6 la7 la8 la9 la10 la11 la12 ga0 ga1 ga2 ga3 ga4 ga5 ga6 ga7 ga8 ga9 ga10 ga11 ga12
         obtain ⟨qc, ⟨lc0, lc1, lc2, lc3, lc4, lc5, lc6, lc7, lc8, lc9, lc10, lc11, lc12⟩, gc0, gc1, gc2, gc3, gc4, gc5, gc6, gc7, gc8, gc9, gc10, gc11, gc12⟩ := HB4.out
         obtain ⟨qd, ⟨ld0, ld1, ld2, ld3, ld4, ld5, ld6, ld7, ld8, ld9, ld10, ld11, ld12⟩, gd0, gd1, gd2, gd3, gd4, gd5, gd6, gd7, gd8, gd9, gd10, gd11, gd12⟩ := HBY
         clear E3
         go_wp2_with fail
         rw [HX3.out]
         exact endP (W := w3) (g := w.heap.size) (t := x) (ts := ts1) (fun k => w.heap.size + 1 ≤ k ∧ k ≠ w2.heap.size) HB4.out rfl HL4.out (fun k hk => ⟨by omega, by omega⟩) HS4.out hg0 (Nat.le_refl _) HZ.out HE4.out (Ext.refl _) (fun h0 h1 h2 h3 h4 h5 h6 h7 h8 h9 h10 h11 h12 => by simp [results, Tryz.results165, go_sem, h0, h1, h2, h3, h4, h5, h6, h7, h8, h9, h10, h11, h12, aggX])
       · rw [hsg] at c2
         have h5 : (hd ts1).1 ≠ 5 := by rw [(isSg_k hsg).1]; decide
         have H5 : Hid ((hd ts1).1 ≠ 5) := h5
         have HX3 : Hid (argm F d ts = ((tk1 d ts1).bind fun ts2 => (refr d ts2).bind fun b => .ok (tRange x.r b.1, b.2))) := by show _ = _; rw [HX2.out, if_pos ⟨hk, hl, hsg⟩]
         clear h5 hsg hk hl
         go_wp2_with fail
         refine c2.mono ?_
         rintro e w3 ⟨rfl, E3⟩
         clear c2
         have c3 := take_any w0 b d ts1 w3 (HSS.out.ext E3) H5.out
         have HB4 : Hid (BlkX w3 w.heap.size tz (.slice none 0 0)) := HB3.out.ext E3
         have HBY : Hid (BlkX w3 w2.heap.size x (.slice pp ln cl)) := HBX.out.ext E3
         have HE4 : Hid (ExtB b w w3) := HE3.out.trans (E3.toB b)
         clear E3
         cases ht : tk1 d ts1 with
         | error f =>
           rw [ht] at c3 HX3
           go_wp2_with fail
           refine c3.mono ?_
           rintro e w4 ⟨rfl, E4⟩
           rw [HX3.out]
           exact ⟨rfl, rfl, HE4.out.trans E4⟩
         | ok ts2 =>
           rw [ht] at c3 HX3
           clear ht
           go_wp2_with fail
           refine c3.mono ?_
           rintro e w4 ⟨rfl, S4, E4⟩
           clear c3
           have c4 := fun W hW => reference_any w0 b d ts2 W hW HT.out
           have HB5 : Hid (BlkX w4 w.heap.size tz (.slice none 0 0)) := HB4.out.extB E4 hg0
           have HBZ : Hid (BlkX w4 w2.heap.size x (.slice pp ln cl)) := HBY.out.extB E4 hg2
           have HS5 : Hid (Stt w0 b w4 ts2 d) := S4
           have HE5 : Hid (ExtB b w w4) := HE4.out.trans E4
           have HEd : Hid (∀ W, Ext w4 W → ExtB b w W) := fun W e => HE5.out.trans (e.toB b)
           have HSd : Hid (∀ W, Ext w4 W → Stt w0 b W ts2 d) := fun W e => HS5.out.ext e
           obtain ⟨qe, ⟨le0, le1, le2, le3, le4, le5, le6, le7, le8, le9, le10, le11, le12⟩, ge0, ge1, ge2, ge3, ge4, ge5, ge6, ge7, ge8, ge9, ge10, ge11, ge12⟩ := HBZ.out
           clear S4 E4 HB4 HBY HE4 HB3 HBX HE3 HL3 HSS
           have HXe : Hid (∀ f, refr d ts2 = .error f → argm F d ts = .error f) := by intro f hr; rw [HX3.out]; show (refr d ts2).bind _ = _; rw [hr]; rfl
           have HXo : Hid (∀ r ts3, refr d ts2 = .ok (r, ts3) → argm F d ts = .ok (tRange x.r r, ts3)) := by intro r ts3 hr; rw [HX3.out]; show (refr d ts2).bind _ = _; rw [hr]; rfl
           have HB6 : Hid (∀ W, ExtB b w4 W → BlkX W w.heap.size tz (.slice none 0 0) ∧ BlkX W w2.heap.size x (.slice pp ln cl)) := fun W e => ⟨HB5.out.extB e hg0, HBZ.out.extB e hg2⟩
           go_wp2_with fail
           go_region_with (go_at_call 154; refine (c4 _ (HSd.out _ (by first | exact Ext.refl _ | exact (Ext.refl _).drew | exact (Ext.refl _).drewN _))).mono ?_; intro e w5 h5; rcases PF.cases h5 with ⟨f, hr, rfl, E5⟩ | ⟨r0, r1, r2, r3, ts3, hr, rfl, S5, E5⟩; (focus (rw [HXe.out f hr]; exact ⟨rfl, rfl, (HEd.out _ (by first | exact Ext.refl _ | exact (Ext.refl _).drew | exact (Ext.refl _).drewN _)).trans E5⟩)); have X5 : ExtB b w4 w5 := (by first | exact (ExtB.refl b w4).trans E5 | exact ((Ext.refl w4).drew.toB b).trans E5 | exact (((Ext.refl w4).drewN _).toB b).trans E5); have HR5 : Hid (refr d ts2 = .ok ((r0, r1, r2, r3), ts3) ∧ Stt w0 b w5 ts3 d ∧ ExtB b w4 w5) := ⟨hr, S5, X5⟩; obtain ⟨U5, V5⟩ := HB6.out _ X5; obtain ⟨qf, ⟨lf0, lf1, lf2, lf3, lf4, lf5, lf6, lf7, lf8, lf9, lf10, lf11, lf12⟩, gf0, gf1, gf2, gf3, gf4, gf5, gf6, gf7, gf8, gf9, gf10, gf11, gf12⟩ := U5; obtain ⟨qh, ⟨lh0, lh1, lh2, lh3, lh4, lh5, lh6, lh7, lh8, lh9, lh10, lh11, lh12⟩, gh0, gh1, gh2, gh3, gh4, gh5, gh6, gh7, gh8, gh9, gh10, gh11, gh12⟩ := V5; clear h5 hr S5 E5 X5)
           all_goals
             go_wp2_with fail
             rw [HXo.out _ _ HR5.out.1]
             exact endP (W := w5) (g := w.heap.size) (t := tRange x.r (r0, r1, r2, r3)) (ts := ts3) (fun k => w.heap.size + 1 ≤ k) (HB6.out _ HR5.out.2.2).1 rfl .nil (fun k hk => ⟨by omega, by omega⟩) HR5.out.2.1 hg0 (Nat.le_refl _) HZ.out (HE5.out.trans HR5.out.2.2) (Ext.refl _) (fun h0 h1 h2 h3 h4 h5 h6 h7 h8 h9 h10 h11 h12 => by simp [results, Tryz.results165, go_sem, h0, h1, h2, h3, h4, h5, h6, h7, h8, h9, h10, h11, h12, aggX])
     · have hlb : ((nn : Int) == (n1 : Int) + 1) = false := by simp; omega
       have hkb : (x.k == 4) = true := by rw [hk]; rfl
       have HX3 : Hid (argm F d ts = .ok (x, ts1)) := by show _ = _; rw [HX2.out, if_neg]; exact fun h => hl h.2.1
       obtain ⟨qa, ⟨la0, la1, la2, la3, la4, la5, la6, la7, la8, la9, la10, la11, la12⟩, ga0, ga1, ga2, ga3, ga4, ga5, ga6, ga7, ga8, ga9, ga10, ga11, ga12⟩ := HB2.out
       clear c2 hk hl
       go_wp2_with fail
       rw [HX3.out]
       exact endP (W := w2) (g := w.heap.size) (t := x) (ts := ts1) (fun k => w.heap.size + 1 ≤ k ∧ k ≠ w2.heap.size) HB2.out rfl HL2.out (fun k hk => ⟨by omega, by omega⟩) HS2.out hg0 (Nat.le_refl _) HZ.out HE2.out ((Ext.refl _).alloc _) (fun h0 h1 h2 h3 h4 h5 h6 h7 h8 h9 h10 h11 h12 => by simp [results, Tryz.results165, go_sem, h0, h1, h2, h3, h4, h5, h6, h7, h8, h9, h10, h11, h12, aggX])
   · have HX3 : Hid (argm F d ts = .ok (x, ts1)) := by show _ = _; rw [HX2.out, if_neg]; exact fun h => hk h.1
     obtain ⟨qa, ⟨la0, la1, la2, la3, la4, la5, la6, la7, la8, la9, la10, la11, la12⟩, ga0, ga1, ga2, ga3, ga4, ga5, ga6, ga7, ga8, ga9, ga10, ga11, ga12⟩ := HB2.out
     clear c2
     go_wp2_with fail
     rw [HX3.out]
     exact endP (W := w2) (g := w.heap.size) (t := x) (ts := ts1) (fun k => w.heap.size + 1 ≤ k ∧ k ≠ w2.heap.size) HB2.out rfl HL2.out (fun k hk => ⟨by omega, by omega⟩) HS2.out hg0 (Nat.le_refl _) HZ.out HE2.out ((Ext.refl _).alloc _) (fun h0 h1 h2 h3 h4 h5 h6 h7 h8 h9 h10 h11 h12 => by simp [results, Tryz.results165, go_sem, h0, h1, h2, h3, h4, h5, h6, h7, h8, h9, h10, h11, h12, aggX])
end Go.Proofs.YtcggiljlilbdfaaGreatDoor
