/-
 The contract of the closures that level makes.
-/
import Derived.Test.YtcggiljlilbdfaaGreatDoorQ24
import Derived.Test.YtcggiljlilbdfaaGreatDoorQ25
namespace Go.Proofs.YtcggiljlilbdfaaGreatDoor
open Go.RowKit
set_option maxHeartbeats 6000000

set_option maxRecDepth 100000 in
theorem level1_any (w0 : World) (b d n k : Nat) (side : Rd) (K : FuncId) (fs cs : Array Value) (ps pr pt : Nat) (ts : List Tk) (w : World) (hent : ∀ W, (callFunc K (fs ++ cs)).run Tryz.prog W = .ok (.enter K (fs ++ cs)) W) (hK : RdK w0 b n side K (fs ++ cs) w) (hsh : ShF n side)
   (hs1 : w.cell? ⟨ps, 0, none⟩ = some (.func (.func K) fs cs)) (hr1 : w.cell? ⟨pr, 0, none⟩ = some (.pointer (some ⟨b, 0, none⟩))) (ht1 : w.cell? ⟨pt, 0, none⟩ = some (.int .i64 (k : Int)))
   (hb : (ps ≠ b ∧ pr ≠ b ∧ pt ≠ b) ∧ ps < w.heap.size ∧ pr < w.heap.size ∧ pt < w.heap.size)
   (h : Stt w0 b w ts d) (hn : ts.length ≤ n) :
   Calls Tryz.prog 85 #[.pointer (some ⟨ps, 0, none⟩), .pointer (some ⟨pr, 0, none⟩), .pointer (some ⟨pt, 0, none⟩)] w (PR w0 b w d (lv side k d ts)) := by
 have h3 := h.2.2.1
 have HS : Hid (Stt w0 b w ts d) := h
 have HZ : Hid (w0.heap.size ≤ w.heap.size) := h.1.sz
 have hg0 : w.heap.size ≠ b := by omega
 have HH : Hid (b < w.heap.size) := h3
 have HN : Hid (ts.length ≤ n) := hn
 have HSH : Hid (ShF n side) := hsh
 have HK : Hid (RdK w0 b n side K (fs ++ cs) w) := hK
 have HC : Hid (∀ W, ExtB b w W → W.cell? ⟨ps, 0, none⟩ = some (.func (.func K) fs cs) ∧ W.cell? ⟨pr, 0, none⟩ = some (.pointer (some ⟨b, 0, none⟩)) ∧ W.cell? ⟨pt, 0, none⟩ = some (.int .i64 (k : Int))) := by
   obtain ⟨⟨u1, u2, u3⟩, v1, v2, v3⟩ := hb
   intro W e
   exact ⟨((e.cell v1 u1 0).1).trans hs1, ((e.cell v2 u2 0).1).trans hr1, ((e.cell v3 u3 0).1).trans ht1⟩
 have HPB : Hid (ps < w.heap.size ∧ pr < w.heap.size ∧ pt < w.heap.size) := hb.2
 have hps : ps < w.heap.size := hb.2.1
 clear h hK hsh hr1 ht1 hb hn
 go_enter Tryz.func85, Tryz.ntmps85
 go_wp2_with fail
 refine (HK.out _ ts d ((ExtB.refl b w).alloc _) (HS.out.ext ((Ext.refl _).alloc _)) HN.out).mono ?_
 intro e w1 h1
 rcases h1.cases with ⟨f, hr, rfl, E1⟩ | ⟨x, ts1, pp, ln, cl, hr, rfl, hL, S1, E1⟩
 · have hX : lv side k d ts = .error f := by rw [lv_eq, hr]; rfl
   exact ⟨rfl, (by rw [hX]; exact ⟨rfl, ((ExtB.refl b w).alloc _).trans E1⟩ : PR w0 b w d (lv side k d ts) (pft f) w1)⟩
 · have HX : Hid (lv side k d ts = lp side k d ts1.length x ts1) := by show _ = _; rw [lv_eq, hr]; rfl
   have s1 := HSH.out d ts HS.out.2.2.2.1 HN.out _ _ hr
   have HR1 : Hid (ts1.length ≤ n) := by show _ ≤ _; have := s1.2; have := HN.out; omega
   have hw1 : w.heap.size + 1 ≤ w1.heap.size := by have := E1.size; simp at this; omega
   have HB1 : Hid (BlkX w1 w.heap.size tz (.slice none 0 0) ∧ ExtB b w w1 ∧ w.heap.size + 1 ≤ w1.heap.size) := ⟨(BlkX.top rfl (Ext.refl _)).extB E1 hg0, ((ExtB.refl b w).alloc _).trans E1, hw1⟩
   have HL1 : Hid (IsL w1 (fun j => w.heap.size + 1 ≤ j ∧ j ≠ w1.heap.size) (.slice pp ln cl) x.l) := hL.mono (fun j hj hs => ⟨by simp at hj; exact hj, by omega⟩)
   have HS1 : Hid (Stt w0 b w1 ts1 d) := S1
   have hg4 : w1.heap.size ≠ b := by omega
   have HW1 : Hid (w.heap.size + 1 ≤ w1.heap.size) := hw1
   clear h1 hr hL S1 E1 s1
   unfold aggX
   go_wp2_with fail
   go_loopw [5] (fun _ wr => ∃ (x : T) (pp : Option Addr) (ln cl : Nat) (us : List Tk) (f : Nat), BlkX wr w1.heap.size x (.slice pp ln cl) ∧ IsL wr (fun j => w.heap.size + 1 ≤ j ∧ j ≠ w1.heap.size) (.slice pp ln cl) x.l ∧ Stt w0 b wr us d ∧ ExtB b w wr ∧ BlkX wr w.heap.size tz (.slice none 0 0) ∧ us.length ≤ f ∧ us.length ≤ n ∧ lv side k d ts = lp side k d f x us) (fun _ wr => left b wr)
   case atStart =>
     exact ⟨x, pp, ln, cl, ts1, ts1.length, blk13_top rfl (Ext.refl _), HL1.out.ext ((Ext.refl _).alloc _), HS1.out.ext ((Ext.refl _).alloc _), HB1.out.2.1.alloc _, HB1.out.1.ext ((Ext.refl _).alloc _), Nat.le_refl _, HR1.out, HX.out⟩
   case round =>
     obtain ⟨x, pp, ln, cl, us, f, hBX, hL, hS, hE, hB0, hf, hun, hA⟩ := hrel
     have HO : Hid (BlkX wr w1.heap.size x (.slice pp ln cl) ∧ IsL wr (fun j => w.heap.size + 1 ≤ j ∧ j ≠ w1.heap.size) (.slice pp ln cl) x.l ∧ Stt w0 b wr us d ∧ ExtB b w wr ∧ BlkX wr w.heap.size tz (.slice none 0 0)) := ⟨hBX, hL, hS, hE, hB0⟩
     have HU : Hid (us.length ≤ f ∧ us.length ≤ n ∧ 1 ≤ us.length) := ⟨hf, hun, hS.2.2.2.1.pos⟩
     have HAR : Hid (lv side k d ts = lp side k d f x us) := hA
     have HM : Hid (left b wr = us.length) := hS.left
     obtain ⟨r1, r2, r3⟩ := HC.out wr hE
     obtain ⟨tb, off, cc, b0, z0, b1, z1, t0, t1, t2, t3, t4, hne, hc, hp, hs⟩ := hS.get
     have hbw : b < wr.heap.size := hS.2.2.1
     obtain ⟨kk, hkk⟩ : ∃ kk, (hd us).1 = kk := ⟨_, rfl⟩
     have HKK : Hid ((hd us).1 = kk) := hkk
     rw [hkk] at t0
     obtain ⟨s, hss⟩ : ∃ s, (hd us).2.2.1 = s := ⟨_, rfl⟩
     have HSS : Hid ((hd us).2.2.1 = s) := hss
     rw [hss] at t2
     obtain ⟨nn, hnn⟩ : ∃ nn, us.length = nn := ⟨_, rfl⟩
     rw [hnn] at b0 hc hp
     have hp0 : 0 < nn := hp
     clear hBX hL hE hB0 hf hun hA hkk hss hnn t1 t3 t4 z0 b1 z1 HX HR1 HB1 HL1 HS1 hS
     obtain ⟨f, rfl⟩ : ∃ g, f = g + 1 := ⟨f - 1, by have := HU.out; omega⟩
     by_cases hk3 : kk = 3
     · have hkb : (kk == 3) = true := by rw [hk3]; rfl
       have cB := fun W => binds_any (bs s) W
       have es : (bs s).data.toList = s := rfl
       rw [es] at cB
       obtain ⟨bb, hbb⟩ : ∃ bb, bnd s = bb := ⟨_, rfl⟩
       rw [hbb] at cB
       clear es
       by_cases hbk : bb = k
       · have hbI : ((bb : Int) == (k : Int)) = true := by rw [hbk]; simp
         have HCC : Hid ((hd us).1 = 3 ∧ bnd (hd us).2.2.1 = k) := ⟨HKK.out.trans hk3, by rw [HSS.out, hbb, hbk]⟩
         have HX1 : Hid (lv side k d ts = (tk1 d us).bind fun us1 => (side d us1).bind fun y => lp side k d f (tBin s x y.1) y.2) := by show _ = _; rw [HAR.out, lp_eq _ _ _ _ _ _ HCC.out, HSS.out]
         have H5 : Hid ((hd us).1 ≠ 5) := by show _ ≠ _; rw [HCC.out.1]; decide
         clear hk3 hbb hbk
         go_wp2_with fail
         go_region_held3 (fun W => W.cell? ⟨pr, 0, none⟩ = some (.pointer (some ⟨b, 0, none⟩)) ∧ W.cell? ⟨b, 0, none⟩ = some (.slice (some ⟨tb, off, none⟩) nn cc) ∧ W.cell? ⟨tb, off, none⟩ = some (.int .i64 kk) ∧ W.cell? ⟨tb, off + 2, none⟩ = some (.string (bs s)) ∧ W.cell? ⟨pt, 0, none⟩ = some (.int .i64 (k : Int)))
           (exact ⟨r2, b0, t0, t2, r3⟩)
           ((go_at_call 31; refine (cB _).mono ?_; rintro e y1 ⟨rfl, rfl⟩))
         clear r1 r2 r3 b0 t0 t2 cB
         go_wp2_with fail
         refine (take_any w0 b d us _ (HO.out.2.2.1.ext (Ext.refl _).drew) H5.out).mono ?_
         intro e w2 h2
         rcases h2.cases with ⟨f', hr, rfl, E2⟩ | ⟨us1, hr, rfl, S2, E2⟩
         · have hX : lv side k d ts = .error f' := by rw [HX1.out, hr]; rfl
           exact ⟨rfl, (by rw [hX]; exact ⟨rfl, (HO.out.2.2.2.1.drew).trans E2⟩ : PR w0 b w d (lv side k d ts) (pft f') w2)⟩
         · have s1 := tk1_sh HO.out.2.2.1.2.2.2.1 H5.out hr
           have HX2 : Hid (lv side k d ts = (side d us1).bind fun y => lp side k d f (tBin s x y.1) y.2) := by show _ = _; rw [HX1.out, hr]; rfl
           have HU1 : Hid (us1.length < us.length ∧ us1.length ≤ n ∧ Nz us1) := by have := s1.2; have := HU.out; exact ⟨by omega, by omega, s1.1⟩
           have HO2 : Hid (BlkX w2 w1.heap.size x (.slice pp ln cl) ∧ IsL w2 (fun j => w.heap.size + 1 ≤ j ∧ j ≠ w1.heap.size) (.slice pp ln cl) x.l ∧ Stt w0 b w2 us1 d ∧ ExtB b w w2 ∧ BlkX w2 w.heap.size tz (.slice none 0 0)) := ⟨(HO.out.1.ext (Ext.refl _).drew).extB E2 hg4, (HO.out.2.1.ext (Ext.refl _).drew).extB E2 (fun j hj => by have := HH.out; omega), S2, (HO.out.2.2.2.1.drew).trans E2, (HO.out.2.2.2.2.ext (Ext.refl _).drew).extB E2 hg0⟩
           have q1 := (HC.out w2 HO2.out.2.2.2.1).1
           have fd : ∀ W, (Instr.field 45 (.agg #[.int .i64 (hd us).1, .int .i64 (hd us).2.1, .string (bs (hd us).2.2.1), .int .i64 (hd us).2.2.2.1, .int .i64 (hd us).2.2.2.2]) 2).run Tryz.prog W = .ok (.string (bs s)) W := fun W => by rw [← HSS.out]; exact tk_field2 (hd us) W
           have cS : ∀ W, Ext w2 W → Calls Tryz.prog K (fs ++ cs) W (PR w0 b W d (side d us1)) := fun W e => HK.out W us1 d (HO2.out.2.2.2.1.trans (e.toB b)) (HO2.out.2.2.1.ext e) HU1.out.2.1
           have HXe : Hid (∀ f', side d us1 = .error f' → lv side k d ts = .error f') := by intro f' hr; rw [HX2.out, hr]; rfl
           have HXo : Hid (∀ y us2, side d us1 = .ok (y, us2) → lv side k d ts = lp side k d f (tBin s x y) us2 ∧ us2.length < us.length) := by
             intro y us2 hr
             refine ⟨by rw [HX2.out, hr]; rfl, ?_⟩
             have := (HSH.out d us1 HU1.out.2.2 HU1.out.2.1 _ _ hr).2
             have := HU1.out.1
             omega
           have HEd : Hid (∀ W, Ext w2 W → ExtB b w W) := fun W e => HO2.out.2.2.2.1.trans (e.toB b)
           have HBd : Hid (∀ W, ExtB b w2 W → BlkX W w1.heap.size x (.slice pp ln cl) ∧ IsL W (fun j => w.heap.size + 1 ≤ j ∧ j ≠ w1.heap.size) (.slice pp ln cl) x.l ∧ BlkX W w.heap.size tz (.slice none 0 0)) := fun W e => ⟨HO2.out.1.extB e hg4, HO2.out.2.1.extB e (fun j hj => by have := HH.out; omega), HO2.out.2.2.2.2.extB e hg0⟩
           have U1 := HO2.out.1
           obtain ⟨qa, ⟨la0, la1, la2, la3, la4, la5, la6, la7, la8, la9, la10, la11, la12⟩, ga0, ga1, ga2, ga3, ga4, ga5, ga6, ga7, ga8, ga9, ga10, ga11, ga12⟩ := U1
           clear h2 hr S2 E2 s1
           unfold aggT
           go_wp2_with fail
           go_region_with (refine (cS _ (by first | exact Ext.refl _ | exact (Ext.refl _).drew | exact (Ext.refl _).drewN _)).mono ?_; intro e w5 h5; rcases h5.cases with ⟨f', hr, rfl, E5⟩ | ⟨y, us2, qq, lm, cm, hr, rfl, hLy, S5, E5⟩; (focus (exact ⟨rfl, (by rw [HXe.out f' hr]; exact ⟨rfl, (HEd.out _ (by first | exact Ext.refl _ | exact (Ext.refl _).drew | exact (Ext.refl _).drewN _)).trans E5⟩ : PR w0 b w d (lv side k d ts) (pft f') w5)⟩)); have X5 : ExtB b w2 w5 := (by first | exact (ExtB.refl b w2).trans E5 | exact ((Ext.refl w2).drew.toB b).trans E5 | exact (((Ext.refl w2).drewN _).toB b).trans E5); have HR5 : Hid (side d us1 = .ok (y, us2) ∧ Stt w0 b w5 us2 d ∧ ExtB b w2 w5 ∧ IsL w5 (w2.heap.size ≤ ·) (.slice qq lm cm) y.l) := ⟨hr, S5, X5, hLy⟩; have U5 := (HBd.out _ X5).1; have q5 := (HC.out w5 (HO2.out.2.2.2.1.trans X5)).1; obtain ⟨qc, ⟨lc0, lc1, lc2, lc3, lc4, lc5, lc6, lc7, lc8, lc9, lc10, lc11, lc12⟩, gc0, gc1, gc2, gc3, gc4, gc5, gc6, gc7, gc8, gc9, gc10, gc11, gc12⟩ := U5; clear h5 hr S5 E5 X5 hLy; unfold aggX)
           all_goals
             have HF6 : Hid (BlkX ((putX w5 w1.heap.size (tBin s x y) (.slice (some ⟨w5.heap.size, 0, none⟩) 2 2)).alloc (.cells #[.int .i64 x.k, .int .i64 x.n, .string (bs x.s), .int .i64 x.e, .int .i64 x.r.1, .int .i64 x.r.2.1, .bool x.r.2.2.1, .bool x.r.2.2.2, .int .i64 x.q.1, .int .i64 x.q.2.1, .bool x.q.2.2.1, .bool x.q.2.2.2, .slice pp ln cl, .int .i64 y.k, .int .i64 y.n, .string (bs y.s), .int .i64 y.e, .int .i64 y.r.1, .int .i64 y.r.2.1, .bool y.r.2.2.1, .bool y.r.2.2.2, .int .i64 y.q.1, .int .i64 y.q.2.1, .bool y.q.2.2.1, .bool y.q.2.2.2, .slice qq lm cm] 29)) w1.heap.size (tBin s x y) (.slice (some ⟨w5.heap.size, 0, none⟩) 2 2) ∧ IsL ((putX w5 w1.heap.size (tBin s x y) (.slice (some ⟨w5.heap.size, 0, none⟩) 2 2)).alloc (.cells #[.int .i64 x.k, .int .i64 x.n, .string (bs x.s), .int .i64 x.e, .int .i64 x.r.1, .int .i64 x.r.2.1, .bool x.r.2.2.1, .bool x.r.2.2.2, .int .i64 x.q.1, .int .i64 x.q.2.1, .bool x.q.2.2.1, .bool x.q.2.2.2, .slice pp ln cl, .int .i64 y.k, .int .i64 y.n, .string (bs y.s), .int .i64 y.e, .int .i64 y.r.1, .int .i64 y.r.2.1, .bool y.r.2.2.1, .bool y.r.2.2.2, .int .i64 y.q.1, .int .i64 y.q.2.1, .bool y.q.2.2.1, .bool y.q.2.2.2, .slice qq lm cm] 29)) (fun j => w.heap.size + 1 ≤ j ∧ j ≠ w1.heap.size) (.slice (some ⟨w5.heap.size, 0, none⟩) 2 2) [x, y] ∧ Stt w0 b ((putX w5 w1.heap.size (tBin s x y) (.slice (some ⟨w5.heap.size, 0, none⟩) 2 2)).alloc (.cells #[.int .i64 x.k, .int .i64 x.n, .string (bs x.s), .int .i64 x.e, .int .i64 x.r.1, .int .i64 x.r.2.1, .bool x.r.2.2.1, .bool x.r.2.2.2, .int .i64 x.q.1, .int .i64 x.q.2.1, .bool x.q.2.2.1, .bool x.q.2.2.2, .slice pp ln cl, .int .i64 y.k, .int .i64 y.n, .string (bs y.s), .int .i64 y.e, .int .i64 y.r.1, .int .i64 y.r.2.1, .bool y.r.2.2.1, .bool y.r.2.2.2, .int .i64 y.q.1, .int .i64 y.q.2.1, .bool y.q.2.2.1, .bool y.q.2.2.2, .slice qq lm cm] 29)) us2 d ∧ ExtB b w ((putX w5 w1.heap.size (tBin s x y) (.slice (some ⟨w5.heap.size, 0, none⟩) 2 2)).alloc (.cells #[.int .i64 x.k, .int .i64 x.n, .string (bs x.s), .int .i64 x.e, .int .i64 x.r.1, .int .i64 x.r.2.1, .bool x.r.2.2.1, .bool x.r.2.2.2, .int .i64 x.q.1, .int .i64 x.q.2.1, .bool x.q.2.2.1, .bool x.q.2.2.2, .slice pp ln cl, .int .i64 y.k, .int .i64 y.n, .string (bs y.s), .int .i64 y.e, .int .i64 y.r.1, .int .i64 y.r.2.1, .bool y.r.2.2.1, .bool y.r.2.2.2, .int .i64 y.q.1, .int .i64 y.q.2.1, .bool y.q.2.2.1, .bool y.q.2.2.2, .slice qq lm cm] 29)) ∧ BlkX ((putX w5 w1.heap.size (tBin s x y) (.slice (some ⟨w5.heap.size, 0, none⟩) 2 2)).alloc (.cells #[.int .i64 x.k, .int .i64 x.n, .string (bs x.s), .int .i64 x.e, .int .i64 x.r.1, .int .i64 x.r.2.1, .bool x.r.2.2.1, .bool x.r.2.2.2, .int .i64 x.q.1, .int .i64 x.q.2.1, .bool x.q.2.2.1, .bool x.q.2.2.2, .slice pp ln cl, .int .i64 y.k, .int .i64 y.n, .string (bs y.s), .int .i64 y.e, .int .i64 y.r.1, .int .i64 y.r.2.1, .bool y.r.2.2.1, .bool y.r.2.2.2, .int .i64 y.q.1, .int .i64 y.q.2.1, .bool y.q.2.2.1, .bool y.q.2.2.2, .slice qq lm cm] 29)) w.heap.size tz (.slice none 0 0)) := by
               have hx := HBd.out _ HR5.out.2.2.1
               have z1 := HO2.out.1.1
               have z5 := HR5.out.2.2.1.size
               have zw := HW1.out
               have zz := HZ.out
               have hy : IsL w5 (fun j => w.heap.size + 1 ≤ j ∧ j ≠ w1.heap.size) (.slice qq lm cm) y.l := HR5.out.2.2.2.mono (fun j hj _ => ⟨by omega, by omega⟩)
               have hxy := IsL.two hx.2.1 hy ⟨by omega, by omega⟩
               have hS := putX_S HR5.out.2.1 hg4 (by omega) (tBin s x y) (.slice (some ⟨w5.heap.size, 0, none⟩) 2 2)
               have hE := putX_B (HO2.out.2.2.2.1.trans HR5.out.2.2.1) (show w.heap.size ≤ w1.heap.size by omega) (tBin s x y) (.slice (some ⟨w5.heap.size, 0, none⟩) 2 2)
               have hB : BlkX (putX w5 w1.heap.size (tBin s x y) (.slice (some ⟨w5.heap.size, 0, none⟩) 2 2)) w.heap.size tz (.slice none 0 0) := Blk13.far hx.2.2 (by omega) _ _ _ _ _ _ _ _ _ _ _ _ _
               exact ⟨(hx.1.put (tBin s x y) _).ext ((Ext.refl _).alloc _), putX_La hxy (fun j hj => hj.2), hS.ext ((Ext.refl _).alloc _), hE.alloc _, hB.ext ((Ext.refl _).alloc _)⟩
             change Exit.inBlock 1 _ Exit.normal _ ((putX w5 w1.heap.size (tBin s x y) (.slice (some ⟨w5.heap.size, 0, none⟩) 2 2)).alloc (.cells #[.int .i64 x.k, .int .i64 x.n, .string (bs x.s), .int .i64 x.e, .int .i64 x.r.1, .int .i64 x.r.2.1, .bool x.r.2.2.1, .bool x.r.2.2.2, .int .i64 x.q.1, .int .i64 x.q.2.1, .bool x.q.2.2.1, .bool x.q.2.2.2, .slice pp ln cl, .int .i64 y.k, .int .i64 y.n, .string (bs y.s), .int .i64 y.e, .int .i64 y.r.1, .int .i64 y.r.2.1, .bool y.r.2.2.1, .bool y.r.2.2.2, .int .i64 y.q.1, .int .i64 y.q.2.1, .bool y.q.2.2.1, .bool y.q.2.2.2, .slice qq lm cm] 29))
             generalize (putX w5 w1.heap.size (tBin s x y) (.slice (some ⟨w5.heap.size, 0, none⟩) 2 2)).alloc (.cells #[.int .i64 x.k, .int .i64 x.n, .string (bs x.s), .int .i64 x.e, .int .i64 x.r.1, .int .i64 x.r.2.1, .bool x.r.2.2.1, .bool x.r.2.2.2, .int .i64 x.q.1, .int .i64 x.q.2.1, .bool x.q.2.2.1, .bool x.q.2.2.2, .slice pp ln cl, .int .i64 y.k, .int .i64 y.n, .string (bs y.s), .int .i64 y.e, .int .i64 y.r.1, .int .i64 y.r.2.1, .bool y.r.2.2.1, .bool y.r.2.2.2, .int .i64 y.q.1, .int .i64 y.q.2.1, .bool y.q.2.2.1, .bool y.q.2.2.2, .slice qq lm cm] 29) = W6 at HF6 ⊢
             clear lc0 lc1 lc2 lc3 lc4 lc5 lc6 lc7 lc8 lc9 lc10 lc11 lc12 gc0 gc1 gc2 gc3 gc4 gc5 gc6 gc7 gc8 gc9 gc10 gc11 gc12 qc la0 la1 la2 la3 la4 la5 la6 la7 la8 la9 la10 la11 la12 ga0 ga1 ga2 ga3 ga4 ga5 ga6 ga7 ga8 ga9 ga10 ga11 ga12 qa cS fd q1 q5
             go_wp2_with fail
             go_roundw
             case rel =>
               have hO := HXo.out _ _ HR5.out.1
               have hU := HU.out
               exact ⟨tBin s x y, some ⟨w5.heap.size, 0, none⟩, 2, 2, us2, f, HF6.out.1, HF6.out.2.1, HF6.out.2.2.1, HF6.out.2.2.2.1, HF6.out.2.2.2.2, by omega, by omega, hO.1⟩
             case measure =>
               have hO := HXo.out _ _ HR5.out.1
               rw [HF6.out.2.2.1.left, HM.out]
               exact hO.2
       · have hbI : ((bb : Int) == (k : Int)) = false := by simp; omega
         have HX1 : Hid (lv side k d ts = .ok (x, us)) := by show _ = _; rw [HAR.out, lp, if_neg]; rw [HSS.out, hbb]; exact fun h => hbk h.2
         clear hk3 hbb hbk
         go_wp2_with fail
         go_region_held3 (fun W => W.cell? ⟨pr, 0, none⟩ = some (.pointer (some ⟨b, 0, none⟩)) ∧ W.cell? ⟨b, 0, none⟩ = some (.slice (some ⟨tb, off, none⟩) nn cc) ∧ W.cell? ⟨tb, off, none⟩ = some (.int .i64 kk) ∧ W.cell? ⟨tb, off + 2, none⟩ = some (.string (bs s)) ∧ W.cell? ⟨pt, 0, none⟩ = some (.int .i64 (k : Int)))
           (exact ⟨r2, b0, t0, t2, r3⟩)
           ((go_at_call 31; refine (cB _).mono ?_; rintro e y1 ⟨rfl, rfl⟩))
         clear r1 r2 r3 b0 t0 t2
         have HD : Hid (BlkX wr.drew w1.heap.size x (.slice pp ln cl) ∧ IsL wr.drew (fun j => w.heap.size + 1 ≤ j ∧ j ≠ w1.heap.size) (.slice pp ln cl) x.l ∧ Stt w0 b wr.drew us d ∧ ExtB b w wr.drew ∧ BlkX wr.drew w.heap.size tz (.slice none 0 0)) := ⟨HO.out.1.ext (Ext.refl _).drew, HO.out.2.1.ext (Ext.refl _).drew, HO.out.2.2.1.ext (Ext.refl _).drew, HO.out.2.2.2.1.drew, HO.out.2.2.2.2.ext (Ext.refl _).drew⟩
         have U1 := HD.out.1
         have U2 := HD.out.2.2.2.2
         obtain ⟨qa, ⟨la0, la1, la2, la3, la4, la5, la6, la7, la8, la9, la10, la11, la12⟩, ga0, ga1, ga2, ga3, ga4, ga5, ga6, ga7, ga8, ga9, ga10, ga11, ga12⟩ := U1
         obtain ⟨qc, ⟨lc0, lc1, lc2, lc3, lc4, lc5, lc6, lc7, lc8, lc9, lc10, lc11, lc12⟩, gc0, gc1, gc2, gc3, gc4, gc5, gc6, gc7, gc8, gc9, gc10, gc11, gc12⟩ := U2
         generalize wr.drew = wd at *
         go_wp2_with fail
         rw [HX1.out]
         exact endP (W := wd) (g := w.heap.size) (t := x) (ts := us) (fun j => w.heap.size + 1 ≤ j ∧ j ≠ w1.heap.size) HD.out.2.2.2.2 rfl HD.out.2.1 (fun j hj => ⟨by omega, by omega⟩) HD.out.2.2.1 hg0 (Nat.le_refl _) HZ.out HD.out.2.2.2.1 (Ext.refl _) (fun h0 h1 h2 h3 h4 h5 h6 h7 h8 h9 h10 h11 h12 => by simp [results, Tryz.results85, go_sem, h0, h1, h2, h3, h4, h5, h6, h7, h8, h9, h10, h11, h12, aggX])
     · have hkb : (kk == 3) = false := by simpa using hk3
       have HX1 : Hid (lv side k d ts = .ok (x, us)) := by show _ = _; rw [HAR.out, lp, if_neg]; rw [HKK.out]; exact fun h => hk3 h.1
       clear hk3
       go_wp2_with fail
       refine wp_region_held_drew (S := (fun W => W.cell? ⟨pr, 0, none⟩ = some (.pointer (some ⟨b, 0, none⟩)) ∧ W.cell? ⟨b, 0, none⟩ = some (.slice (some ⟨tb, off, none⟩) nn cc) ∧ W.cell? ⟨tb, off, none⟩ = some (.int .i64 kk) ∧ W.cell? ⟨tb, off + 2, none⟩ = some (.string (bs s)) ∧ W.cell? ⟨pt, 0, none⟩ = some (.int .i64 (k : Int)))) (by kernel_rfl) ?_ (fun hHeld => ?_)
       · exact ⟨r2, b0, t0, t2, r3⟩
       refine wpAnyH_take (i := 0) (oi := { dst := some 8, op := Op.load 70 (Operand.tmp 1), type := 70, pos := "parse.go:190", after := #[], guard := none }) (v := ?_) rfl (by kernel_rfl) (by kernel_rfl) (by kernel_rfl) (fun _ _ _ h => h) (Or.inl ⟨by rfl, ?_⟩) (by assumption) ?_
       rotate_left
       · intro w hSw; (try dsimp only at hSw); first | (go_simp; done) | (go_simp; with_reducible rfl)
       try simp only [Act.put, List.setIfInBounds_toArray, List.set_cons_zero, List.set_cons_succ]
       refine wpAnyH_take (i := 1) (oi := { dst := some 9, op := Op.nilCheck (Operand.tmp 8), type := 0, pos := "parse.go:190", after := #[{ on := 0, ground := Ground.data }], guard := none }) (v := ?_) rfl (by kernel_rfl) (by kernel_rfl) (by kernel_rfl) (fun _ _ _ h => h) (Or.inl ⟨by rfl, ?_⟩) (by assumption) ?_
       rotate_left
       · intro w hSw; (try dsimp only at hSw); first | (go_simp; done) | (go_simp; with_reducible rfl)
       try simp only [Act.put, List.setIfInBounds_toArray, List.set_cons_zero, List.set_cons_succ]
       refine wpAnyH_take (i := 2) (oi := { dst := some 10, op := Op.fieldAddr 72 (Operand.tmp 9) 0, type := 0, pos := "parse.go:190", after := #[{ on := 1, ground := Ground.data }], guard := none }) (v := ?_) rfl (by kernel_rfl) (by kernel_rfl) (by kernel_rfl) (fun _ _ _ h => h) (Or.inl ⟨by rfl, ?_⟩) (by assumption) ?_
       rotate_left
       · intro w hSw; (try dsimp only at hSw); first | (go_simp; done) | (go_simp; with_reducible rfl)
       try simp only [Act.put, List.setIfInBounds_toArray, List.set_cons_zero, List.set_cons_succ]
       refine wpAnyH_take (i := 3) (oi := { dst := some 11, op := Op.load 37 (Operand.tmp 10), type := 37, pos := "parse.go:190", after := #[{ on := 2, ground := Ground.data }], guard := none }) (v := ?_) rfl (by kernel_rfl) (by kernel_rfl) (by kernel_rfl) (fun _ _ _ h => h) (Or.inl ⟨by rfl, ?_⟩) (by assumption) ?_
       rotate_left
       · intro w hSw; (try dsimp only at hSw); first | (go_simp; done) | (go_simp; with_reducible rfl)
       try simp only [Act.put, List.setIfInBounds_toArray, List.set_cons_zero, List.set_cons_succ]
       refine wpAnyH_take (i := 4) (oi := { dst := some 12, op := Op.indexAddr 37 (Operand.tmp 11) (Operand.const (Value.int IntKind.i64 0)), type := 0, pos := "parse.go:190", after := #[{ on := 3, ground := Ground.data }], guard := none }) (v := ?_) rfl (by kernel_rfl) (by kernel_rfl) (by kernel_rfl) (fun _ _ _ h => h) (Or.inl ⟨by rfl, ?_⟩) (by assumption) ?_
       rotate_left
       · intro w hSw; (try dsimp only at hSw); first | (go_simp; done) | (go_simp; with_reducible rfl)
       try simp only [Act.put, List.setIfInBounds_toArray, List.set_cons_zero, List.set_cons_succ]
       refine wpAnyH_take (i := 5) (oi := { dst := some 13, op := Op.fieldAddr 45 (Operand.tmp 12) 0, type := 0, pos := "parse.go:190", after := #[{ on := 4, ground := Ground.data }], guard := none }) (v := ?_) rfl (by kernel_rfl) (by kernel_rfl) (by kernel_rfl) (fun _ _ _ h => h) (Or.inl ⟨by rfl, ?_⟩) (by assumption) ?_
       rotate_left
       · intro w hSw; (try dsimp only at hSw); first | (go_simp; done) | (go_simp; with_reducible rfl)
       try simp only [Act.put, List.setIfInBounds_toArray, List.set_cons_zero, List.set_cons_succ]
       refine wpAnyH_take (i := 6) (oi := { dst := some 14, op := Op.load 3 (Operand.tmp 13), type := 3, pos := "parse.go:190", after := #[{ on := 5, ground := Ground.data }], guard := none }) (v := ?_) rfl (by kernel_rfl) (by kernel_rfl) (by kernel_rfl) (fun _ _ _ h => h) (Or.inl ⟨by rfl, ?_⟩) (by assumption) ?_
       rotate_left
       · intro w hSw; (try dsimp only at hSw); first | (go_simp; done) | (go_simp; with_reducible rfl)
       try simp only [Act.put, List.setIfInBounds_toArray, List.set_cons_zero, List.set_cons_succ]
       refine wpAnyH_take (i := 7) (oi := { dst := some 15, op := Op.binOp BinOp.eql 3 (Operand.tmp 14) (Operand.const (Value.int IntKind.i64 3)) 3, type := 4, pos := "parse.go:190", after := #[{ on := 6, ground := Ground.data }], guard := none }) (v := .bool false) rfl (by kernel_rfl) (by kernel_rfl) (by kernel_rfl) (fun _ _ _ h => h) (Or.inl ⟨by rfl, ?_⟩) (by assumption) ?_
       · intro w hSw; (try dsimp only at hSw); first | (go_simp; done) | (go_simp; with_reducible rfl)
       try simp only [Act.put, List.setIfInBounds_toArray, List.set_cons_zero, List.set_cons_succ]
       refine wpAnyH_take (i := 8) (oi := { dst := some 16, op := Op.move (Operand.tmp 15), type := 4, pos := "parse.go:190", after := #[{ on := 7, ground := Ground.data }], guard := none }) (v := .bool false) rfl (by kernel_rfl) (by kernel_rfl) (by kernel_rfl) (fun _ _ _ h => h) (Or.inl ⟨by rfl, ?_⟩) (by assumption) ?_
       · intro w hSw; (try dsimp only at hSw); first | (go_simp; done) | (go_simp; with_reducible rfl)
       try simp only [Act.put, List.setIfInBounds_toArray, List.set_cons_zero, List.set_cons_succ]
       refine wpAnyH_take (i := 9) (oi := { dst := some 17, op := Op.load 70 (Operand.tmp 1), type := 70, pos := "parse.go:190", after := #[{ on := 8, ground := Ground.guard }], guard := some (8, true) }) (v := undef) rfl (by kernel_rfl) (by kernel_rfl) (by kernel_rfl) (fun _ _ _ h => h) (Or.inr ⟨by rfl, rfl⟩) (by assumption) ?_
       try simp only [Act.put, List.setIfInBounds_toArray, List.set_cons_zero, List.set_cons_succ]
       refine wpAnyH_take (i := 10) (oi := { dst := some 18, op := Op.nilCheck (Operand.tmp 17), type := 0, pos := "parse.go:190", after := #[{ on := 9, ground := Ground.data }, { on := 8, ground := Ground.guard }], guard := some (8, true) }) (v := undef) rfl (by kernel_rfl) (by kernel_rfl) (by kernel_rfl) (fun _ _ _ h => h) (Or.inr ⟨by rfl, rfl⟩) (by assumption) ?_
       try simp only [Act.put, List.setIfInBounds_toArray, List.set_cons_zero, List.set_cons_succ]
       refine wpAnyH_take (i := 11) (oi := { dst := some 19, op := Op.fieldAddr 72 (Operand.tmp 18) 0, type := 0, pos := "parse.go:190", after := #[{ on := 10, ground := Ground.data }, { on := 8, ground := Ground.guard }], guard := some (8, true) }) (v := undef) rfl (by kernel_rfl) (by kernel_rfl) (by kernel_rfl) (fun _ _ _ h => h) (Or.inr ⟨by rfl, rfl⟩) (by assumption) ?_
       try simp only [Act.put, List.setIfInBounds_toArray, List.set_cons_zero, List.set_cons_succ]
       refine wpAnyH_take (i := 12) (oi := { dst := some 20, op := Op.load 37 (Operand.tmp 19), type := 37, pos := "parse.go:190", after := #[{ on := 11, ground := Ground.data }, { on := 8, ground := Ground.guard }], guard := some (8, true) }) (v := undef) rfl (by kernel_rfl) (by kernel_rfl) (by kernel_rfl) (fun _ _ _ h => h) (Or.inr ⟨by rfl, rfl⟩) (by assumption) ?_
       try simp only [Act.put, List.setIfInBounds_toArray, List.set_cons_zero, List.set_cons_succ]
       refine wpAnyH_take (i := 13) (oi := { dst := some 21, op := Op.indexAddr 37 (Operand.tmp 20) (Operand.const (Value.int IntKind.i64 0)), type := 0, pos := "parse.go:190", after := #[{ on := 12, ground := Ground.data }, { on := 8, ground := Ground.guard }], guard := some (8, true) }) (v := undef) rfl (by kernel_rfl) (by kernel_rfl) (by kernel_rfl) (fun _ _ _ h => h) (Or.inr ⟨by rfl, rfl⟩) (by assumption) ?_
       try simp only [Act.put, List.setIfInBounds_toArray, List.set_cons_zero, List.set_cons_succ]
       refine wpAnyH_take (i := 14) (oi := { dst := some 22, op := Op.fieldAddr 45 (Operand.tmp 21) 2, type := 0, pos := "parse.go:190", after := #[{ on := 13, ground := Ground.data }, { on := 8, ground := Ground.guard }], guard := some (8, true) }) (v := undef) rfl (by kernel_rfl) (by kernel_rfl) (by kernel_rfl) (fun _ _ _ h => h) (Or.inr ⟨by rfl, rfl⟩) (by assumption) ?_
       try simp only [Act.put, List.setIfInBounds_toArray, List.set_cons_zero, List.set_cons_succ]
       refine wpAnyH_take (i := 15) (oi := { dst := some 23, op := Op.load 9 (Operand.tmp 22), type := 9, pos := "parse.go:190", after := #[{ on := 14, ground := Ground.data }, { on := 8, ground := Ground.guard }], guard := some (8, true) }) (v := undef) rfl (by kernel_rfl) (by kernel_rfl) (by kernel_rfl) (fun _ _ _ h => h) (Or.inr ⟨by rfl, rfl⟩) (by assumption) ?_
       try simp only [Act.put, List.setIfInBounds_toArray, List.set_cons_zero, List.set_cons_succ]
       refine wpAnyH_take (i := 16) (oi := { dst := some 24, op := Op.call { callee := Callee.value (Operand.func 31), args := #[Operand.tmp 23], argTypes := #[9] }, type := 3, pos := "parse.go:190", after := #[{ on := 15, ground := Ground.data }, { on := 8, ground := Ground.chain }, { on := 8, ground := Ground.guard }], guard := some (8, true) }) (v := undef) rfl (by kernel_rfl) (by kernel_rfl) (by kernel_rfl) (fun _ _ _ h => h) (Or.inr ⟨by rfl, rfl⟩) (by assumption) ?_
       try simp only [Act.put, List.setIfInBounds_toArray, List.set_cons_zero, List.set_cons_succ]
       refine wpAnyH_take (i := 17) (oi := { dst := some 25, op := Op.load 3 (Operand.tmp 2), type := 3, pos := "parse.go:190", after := #[{ on := 8, ground := Ground.guard }], guard := some (8, true) }) (v := undef) rfl (by kernel_rfl) (by kernel_rfl) (by kernel_rfl) (fun _ _ _ h => h) (Or.inr ⟨by rfl, rfl⟩) (by assumption) ?_
       try simp only [Act.put, List.setIfInBounds_toArray, List.set_cons_zero, List.set_cons_succ]
       refine wpAnyH_take (i := 18) (oi := { dst := some 26, op := Op.binOp BinOp.eql 3 (Operand.tmp 24) (Operand.tmp 25) 3, type := 4, pos := "parse.go:190", after := #[{ on := 16, ground := Ground.data }, { on := 17, ground := Ground.data }, { on := 8, ground := Ground.guard }], guard := some (8, true) }) (v := undef) rfl (by kernel_rfl) (by kernel_rfl) (by kernel_rfl) (fun _ _ _ h => h) (Or.inr ⟨by rfl, rfl⟩) (by assumption) ?_
       try simp only [Act.put, List.setIfInBounds_toArray, List.set_cons_zero, List.set_cons_succ]
       refine wpAnyH_take (i := 19) (oi := { dst := some 27, op := Op.pick (Operand.tmp 16) (Operand.tmp 26) (Operand.const (Value.bool false)), type := 4, pos := "parse.go:190", after := #[{ on := 8, ground := Ground.data }, { on := 18, ground := Ground.data }], guard := none }) (v := ?_) rfl (by kernel_rfl) (by kernel_rfl) (by kernel_rfl) (fun _ _ _ h => h) (Or.inl ⟨by rfl, ?_⟩) (by assumption) ?_
       rotate_left
       · intro w hSw; (try dsimp only at hSw); first | (go_simp; done) | (go_simp; with_reducible rfl)
       try simp only [Act.put, List.setIfInBounds_toArray, List.set_cons_zero, List.set_cons_succ]
       refine wpAnyH_done (by kernel_rfl) ?_ _
       clear r1 r2 r3 b0 t0 t2
       have HD : Hid (BlkX wr.drew w1.heap.size x (.slice pp ln cl) ∧ IsL wr.drew (fun j => w.heap.size + 1 ≤ j ∧ j ≠ w1.heap.size) (.slice pp ln cl) x.l ∧ Stt w0 b wr.drew us d ∧ ExtB b w wr.drew ∧ BlkX wr.drew w.heap.size tz (.slice none 0 0)) := ⟨HO.out.1.ext (Ext.refl _).drew, HO.out.2.1.ext (Ext.refl _).drew, HO.out.2.2.1.ext (Ext.refl _).drew, HO.out.2.2.2.1.drew, HO.out.2.2.2.2.ext (Ext.refl _).drew⟩
       have U1 := HD.out.1
       have U2 := HD.out.2.2.2.2
       obtain ⟨qa, ⟨la0, la1, la2, la3, la4, la5, la6, la7, la8, la9, la10, la11, la12⟩, ga0, ga1, ga2, ga3, ga4, ga5, ga6, ga7, ga8, ga9, ga10, ga11, ga12⟩ := U1
       obtain ⟨qc, ⟨lc0, lc1, lc2, lc3, lc4, lc5, lc6, lc7, lc8, lc9, lc10, lc11, lc12⟩, gc0, gc1, gc2, gc3, gc4, gc5, gc6, gc7, gc8, gc9, gc10, gc11, gc12⟩ := U2
       generalize wr.drew = wd at *
       go_wp2_with fail
       rw [HX1.out]
       exact endP (W := wd) (g := w.heap.size) (t := x) (ts := us) (fun j => w.heap.size + 1 ≤ j ∧ j ≠ w1.heap.size) HD.out.2.2.2.2 rfl HD.out.2.1 (fun j hj => ⟨by omega, by omega⟩) HD.out.2.2.1 hg0 (Nat.le_refl _) HZ.out HD.out.2.2.2.1 (Ext.refl _) (fun h0 h1 h2 h3 h4 h5 h6 h7 h8 h9 h10 h11 h12 => by simp [results, Tryz.results85, go_sem, h0, h1, h2, h3, h4, h5, h6, h7, h8, h9, h10, h11, h12, aggX])
end Go.Proofs.YtcggiljlilbdfaaGreatDoor
