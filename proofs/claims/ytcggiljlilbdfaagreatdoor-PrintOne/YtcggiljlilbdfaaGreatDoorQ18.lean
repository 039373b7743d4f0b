/-
 The contract of reference.
-/
import Derived.Test.YtcggiljlilbdfaaGreatDoorQ17
import Derived.Test.YtcggiljlilbdfaaGreatDoorQ12
namespace Go.Proofs.YtcggiljlilbdfaaGreatDoor
open Go.RowKit
set_option maxHeartbeats 1000000

def refV (r : Rf) : Value := .agg #[.int .i64 r.1, .int .i64 r.2.1, .bool r.2.2.1, .bool r.2.2.2]
/-- What a reading of a place answers. -/
def PF (w0 : World) (b : Nat) (w : World) (d : Nat) (r : Except Ft (Rf × List Tk)) (e : Ending) (w' : World) : Prop := match r with
 | .ok a => e = .returned (refV a.1) ∧ Stt w0 b w' a.2 d ∧ ExtB b w w'
 | .error f => e = pft f ∧ ExtB b w w'
theorem ret4 (v : Value) {fn : Func} {Q : Ending → World → Prop} {a : Act} {W : World} {b : Nat} {x0 x1 x2 x3 : Value} (B : Blk W b x0 x1 x2 x3) (hd : a.defers = [])
   (hr : W.cell? ⟨b, 0, none⟩ = some x0 → W.cell? ⟨b, 1, none⟩ = some x1 → W.cell? ⟨b, 2, none⟩ = some x2 → W.cell? ⟨b, 3, none⟩ = some x3 → (results fn a.tmps).run Tryz.prog W = .ok v W)
   (hQ : Q (.returned v) W) : bodyPost Tryz.prog fn Q .ret a W := bodyPost_ret (hr B.2.1.1 B.2.1.2.1 B.2.1.2.2.1 B.2.1.2.2.2) hd hQ
theorem Blk.extB {b g : Nat} {w w' : World} {x0 x1 x2 x3 : Value} (h : Blk w g x0 x1 x2 x3) (e : ExtB b w w') (hg : g ≠ b) : Blk w' g x0 x1 x2 x3 := by
 obtain ⟨z, ⟨k0, k1, k2, k3⟩, f0, f1, f2, f3⟩ := h
 have k := fun o => (e.cell z hg o).1
 have f := fun o => (e.cell z hg o).2
 exact ⟨Nat.lt_of_lt_of_le z e.size, ⟨(k 0).trans k0, (k 1).trans k1, (k 2).trans k2, (k 3).trans k3⟩, (f 0).trans f0, (f 1).trans f1, (f 2).trans f2, (f 3).trans f3⟩
theorem hd_mem {ts : List Tk} (h : 1 ≤ ts.length) : hd ts ∈ ts := by
 cases ts with
 | nil => simp at h
 | cons t r => simp [hd]
theorem reference_any (w0 : World) (b d : Nat) (ts : List Tk) (w : World) (h : Stt w0 b w ts d) (hT : Tab w0) :
   Calls Tryz.prog 154 #[.pointer (some ⟨b, 0, none⟩)] w (PF w0 b w d (refr d ts)) := by
 have h3 := h.2.2.1
 have HS : Hid (Stt w0 b w ts d) := h
 have hlen : (hd ts).2.2.1.length ≤ 300 := h.2.2.2.2.1 _ (hd_mem h.2.2.2.1.pos)
 obtain ⟨tb, off, cc, b0, z0, b1, z1, t0, t1, t2, t3, t4, hne, hc, hp, hs⟩ := h.get
 have HE : Hid (Ext w0 w) := h.1
 have HZ : Hid (Ext w0 w ∧ w0.heap.size ≤ b) := ⟨h.1, h.2.1⟩
 have HT : Hid (Tab w0) := hT
 have ch := fun W hW => here_any w0 b d ts 4 W hW
 have HH : Hid (∀ W, Stt w0 b W ts d → Calls Tryz.prog 28 #[.pointer (some ⟨b, 0, none⟩), .int .i64 4] W fun e w' => e = .returned (.agg #[.int .i64 (hd ts).2.1, .int .i64 4]) ∧ Ext W w') := ch
 clear b1 z1 t1 t3 t4 hT ch
 by_cases hk : (hd ts).1 = 2
 · have HC : Hid (∀ W, Tab W → Calls Tryz.prog 166 #[.string (bs (hd ts).2.2.1)] W fun e w' => e = .returned (.tuple #[prV (hd ts).2.2.1, .bool (okP (hd ts).2.2.1)]) ∧ Ext W w') := fun W hW => cparse_any (bs (hd ts).2.2.1) W (by rw [bs_size]; unfold maxLen; omega) hW
   have c1 := HC.out (w.alloc (.cells #[.int .i64 0, .int .i64 0, .bool false, .bool false] 26)) ((HT.out.ext HE.out).ext ((Ext.refl _).alloc _))
   have h5 : (hd ts).1 ≠ 5 := by rw [hk]; decide
   have H5 : Hid ((hd ts).1 ≠ 5) := h5
   have HK : Hid ((hd ts).1 = 2) := hk
   rw [hk] at t0
   clear h5 hlen
   cases ho : okP (hd ts).2.2.1
   · have HX : Hid (refr d ts = .error (ft ts false)) := by show _ = _; unfold refr; rw [if_neg]; rw [ho]; simp
     have hv : prV (hd ts).2.2.1 = refD 0 0 false false := by unfold prV; rw [ho]; rfl
     unfold refD at hv
     rw [ho, hv] at c1
     clear ho hv hk h
     generalize bs (hd ts).2.2.1 = q at *
     go_enter Tryz.func154, Tryz.ntmps154
     go_wp2_with fail
     refine c1.mono ?_
     rintro e w1 ⟨rfl, E1⟩
     clear c1
     have c2 := HH.out (w1.alloc (.cells #[.int .i64 0, .int .i64 0, .bool false, .bool false] 26)) ((HS.out.ext ((Ext.refl _).alloc _)).ext (E1.alloc _))
     go_wp2_with fail
     refine c2.mono ?_
     rintro e w2 ⟨rfl, E2⟩
     clear c2
     go_wp2_with fail
     rw [HX.out]
     exact ⟨rfl, rfl, ((((Ext.refl w).alloc _).trans (E1.alloc _)).trans E2).toB b⟩
   · have hv : prV (hd ts).2.2.1 = refV (rfP (hd ts).2.2.1) := by unfold prV; rw [ho]; rfl
     have HX : Hid (refr d ts = (tk1 d ts).bind fun ts1 => .ok (rfP (hd ts).2.2.1, ts1)) := refr_eq d ts ⟨hk, ho⟩
     unfold refV at hv
     rw [ho, hv] at c1
     clear ho hv hk h
     generalize rfP (hd ts).2.2.1 = r at *
     obtain ⟨r0, r1, r2, r3⟩ := r
     simp only [] at c1
     generalize bs (hd ts).2.2.1 = q at *
     go_enter Tryz.func154, Tryz.ntmps154
     go_wp2_with fail
     refine c1.mono ?_
     rintro e w1 ⟨rfl, E1⟩
     clear c1
     have hw1 : w.heap.size < w1.heap.size := by have := E1.sz; simp at this; omega
     have c2 := take_any w0 b d ts (w1.alloc (.cells #[.int .i64 r0, .int .i64 r1, .bool r2, .bool r3] 26)) ((HS.out.ext ((Ext.refl _).alloc _)).ext (E1.alloc _)) H5.out
     have HB1 : Hid (Blk (w1.alloc (.cells #[.int .i64 r0, .int .i64 r1, .bool r2, .bool r3] 26)) w1.heap.size (.int .i64 r0) (.int .i64 r1) (.bool r2) (.bool r3)) := blk_top rfl (Ext.refl _)
     have HB0 : Hid (Blk (w1.alloc (.cells #[.int .i64 r0, .int .i64 r1, .bool r2, .bool r3] 26)) w.heap.size (.int .i64 0) (.int .i64 0) (.bool false) (.bool false)) := blk_top rfl (E1.alloc _)
     cases ht : tk1 d ts with
     | error f =>
       rw [ht] at c2 HX
       go_wp2_with fail
       refine c2.mono ?_
       rintro e w2 ⟨rfl, E2⟩
       rw [HX.out]
       exact ⟨rfl, rfl, (((((Ext.refl w).alloc _).trans (E1.alloc _))).toB b).trans E2⟩
     | ok ts1 =>
       rw [ht] at c2 HX
       go_wp2_with fail
       refine c2.mono ?_
       rintro e w2 ⟨rfl, S2, E2⟩
       clear c2
       have hg1 : w1.heap.size ≠ b := by omega
       have hg0 : w.heap.size ≠ b := by omega
       have B1 := HB1.out.extB E2 hg1
       have B0 := HB0.out.extB E2 hg0
       have HBB : Hid (Blk w2 w.heap.size (.int .i64 0) (.int .i64 0) (.bool false) (.bool false)) := B0
       have HS2 : Hid (Stt w0 b w2 ts1 d ∧ ExtB b (w1.alloc (.cells #[.int .i64 r0, .int .i64 r1, .bool r2, .bool r3] 26)) w2) := ⟨S2, E2⟩
       obtain ⟨q1, ⟨k0, k1, k2, k3⟩, f0, f1, f2, f3⟩ := B1
       obtain ⟨q2, ⟨l0, l1, l2, l3⟩, g0, g1, g2, g3⟩ := B0
       clear S2 E2
       go_wp2_with fail
       rw [HX.out]
       have hz : w0.heap.size ≤ w.heap.size := HE.out.sz
       refine ret4 (refV (r0, r1, r2, r3)) (HBB.out.set _ _ _ _) rfl (fun g0 g1 g2 g3 => by simp [results, Tryz.results154, go_sem, g0, g1, g2, g3, refV]) ⟨rfl, (((HS2.out.1.far hg0 hz _).far hg0 hz _).far hg0 hz _).far hg0 hz _, ?_⟩
       have hE : ExtB b w w2 := ((((Ext.refl w).alloc _).trans (E1.alloc _)).toB b).trans HS2.out.2
       exact (((hE.set (.inr (Nat.le_refl _)) _).set (.inr (Nat.le_refl _)) _).set (.inr (Nat.le_refl _)) _).set (.inr (Nat.le_refl _)) _
 · have HX : Hid (refr d ts = .error (ft ts false)) := by show _ = _; unfold refr; rw [if_neg]; exact fun h => hk h.1
   have c2 := HH.out (w.alloc (.cells #[.int .i64 0, .int .i64 0, .bool false, .bool false] 26)) (HS.out.ext ((Ext.refl _).alloc _))
   clear h
   go_enter Tryz.func154, Tryz.ntmps154
   go_wp2_with fail
   refine c2.mono ?_
   rintro e w2 ⟨rfl, E2⟩
   clear c2
   go_wp2_with fail
   rw [HX.out]
   exact ⟨rfl, rfl, (((Ext.refl w).alloc _).trans E2).toB b⟩
end Go.Proofs.YtcggiljlilbdfaaGreatDoor
