/-
 The contracts of simple and operand.
-/
import Derived.Test.YtcggiljlilbdfaaGreatDoorQ22
namespace Go.Proofs.YtcggiljlilbdfaaGreatDoor
open Go.RowKit
set_option maxHeartbeats 6000000

/-- .. the same, where a block was made on the way. -/
theorem endPa {fn : Func} {a : Act} {w0 w W : World} {o : Obj} {b d g : Nat} {t t0 : T} {lv lv0 : Value} {ts : List Tk} (P : Nat → Prop) (B0 : BlkX W g t0 lv0) (hd : a.defers = []) (hL : IsL (W.alloc o) P lv t.l) (hP : ∀ k, P k → k ≠ g ∧ w.heap.size ≤ k) (hS : Stt w0 b W ts d) (hg : g ≠ b) (hgw : w.heap.size ≤ g) (h0 : w0.heap.size ≤ w.heap.size) (hE : ExtB b w W)
   (hr : ((putX W g t lv).alloc o).cell? ⟨g, 0, none⟩ = some (.int .i64 t.k) → ((putX W g t lv).alloc o).cell? ⟨g, 1, none⟩ = some (.int .i64 t.n) → ((putX W g t lv).alloc o).cell? ⟨g, 2, none⟩ = some (.string (bs t.s)) → ((putX W g t lv).alloc o).cell? ⟨g, 3, none⟩ = some (.int .i64 t.e) → ((putX W g t lv).alloc o).cell? ⟨g, 4, none⟩ = some (.int .i64 t.r.1) → ((putX W g t lv).alloc o).cell? ⟨g, 5, none⟩ = some (.int .i64 t.r.2.1) → ((putX W g t lv).alloc o).cell? ⟨g, 6, none⟩ = some (.bool t.r.2.2.1) → ((putX W g t lv).alloc o).cell? ⟨g, 7, none⟩ = some (.bool t.r.2.2.2) → ((putX W g t lv).alloc o).cell? ⟨g, 8, none⟩ = some (.int .i64 t.q.1) → ((putX W g t lv).alloc o).cell? ⟨g, 9, none⟩ = some (.int .i64 t.q.2.1) → ((putX W g t lv).alloc o).cell? ⟨g, 10, none⟩ = some (.bool t.q.2.2.1) → ((putX W g t lv).alloc o).cell? ⟨g, 11, none⟩ = some (.bool t.q.2.2.2) → ((putX W g t lv).alloc o).cell? ⟨g, 12, none⟩ = some lv → (results fn a.tmps).run Tryz.prog ((putX W g t lv).alloc o) = .ok (aggX t lv) ((putX W g t lv).alloc o)) :
   bodyPost Tryz.prog fn (PR w0 b w d (.ok (t, ts))) .ret a ((putX W g t lv).alloc o) := by
 refine endX (P := P) ((B0.put t lv).ext ((Ext.refl _).alloc _)) hd ?_ (fun k hk => (hP k hk).2) ((putX_S hS hg (Nat.le_trans h0 hgw) t lv).ext ((Ext.refl _).alloc _)) ((putX_B hE hgw t lv).alloc _) hr
 refine hL.keep (by simp [putX_size]) (fun k hk hs => ?_) (fun _ h _ => h)
 have hk2 := (hP k hk).1
 simp at hs
 rcases Nat.lt_or_ge k W.heap.size with hl | hl
 · show ((putX W g t lv).heap.push o)[k]? = (W.heap.push o)[k]?
   rw [Array.getElem?_push_lt (by rw [putX_size]; exact hl), Array.getElem?_push_lt hl, ← Array.getElem?_eq_getElem, ← Array.getElem?_eq_getElem, putX_heap W g k t lv hk2]
 · have : k = W.heap.size := by omega
   subst this
   show ((putX W g t lv).heap.push o)[W.heap.size]? = (W.heap.push o)[W.heap.size]?
   have e := putX_size W g t lv
   rw [← e, Array.getElem?_push_size, e, Array.getElem?_push_size]
theorem tk_field2 (t : Tk) (W : World) : (Instr.field 45 (.agg #[.int .i64 t.1, .int .i64 t.2.1, .string (bs t.2.2.1), .int .i64 t.2.2.2.1, .int .i64 t.2.2.2.2]) 2).run Tryz.prog W = .ok (.string (bs t.2.2.1)) W := by kernel_rfl
theorem tk_field3 (t : Tk) (W : World) : (Instr.field 45 (.agg #[.int .i64 t.1, .int .i64 t.2.1, .string (bs t.2.2.1), .int .i64 t.2.2.2.1, .int .i64 t.2.2.2.2]) 3).run Tryz.prog W = .ok (.int .i64 t.2.2.2.1) W := by kernel_rfl
theorem tk_field4 (t : Tk) (W : World) : (Instr.field 45 (.agg #[.int .i64 t.1, .int .i64 t.2.1, .string (bs t.2.2.1), .int .i64 t.2.2.2.1, .int .i64 t.2.2.2.2]) 4).run Tryz.prog W = .ok (.int .i64 t.2.2.2.2) W := by kernel_rfl
set_option maxRecDepth 100000 in
theorem simple_any (w0 : World) (b d n : Nat) (F : Rd) (ts : List Tk) (w : World) (hF : RdF w0 b n F 27) (hsh : ShF n F) (hT : Tab w0) (h : Stt w0 b w ts d) (hn : ts.length ≤ n + 1) :
   Calls Tryz.prog 113 #[.pointer (some ⟨b, 0, none⟩)] w (PR w0 b w d (smp F d ts)) := by
 have h3 := h.2.2.1
 have HS : Hid (Stt w0 b w ts d) := h
 have HZ : Hid (w0.heap.size ≤ w.heap.size) := h.1.sz
 have hg0 : w.heap.size ≠ b := by omega
 have HF : Hid (RdF w0 b n F 27 ∧ ShF n F ∧ Tab w0) := ⟨hF, hsh, hT⟩
 have HN : Hid (ts.length ≤ n + 1) := hn
 have hmf : ∀ (fn : Fn) (first cap : Array Value) (w : World), (Instr.makeFunc fn first cap).run Tryz.prog w = .ok (.func fn first cap) w := fun _ _ _ _ => rfl
 obtain ⟨tb, off, cc, b0, z0, b1, z1, t0, t1, t2, t3, t4, hne, hc, hp, hs⟩ := h.get
 obtain ⟨kk, hkk⟩ : ∃ kk, (hd ts).1 = kk := ⟨_, rfl⟩
 have HKK : Hid ((hd ts).1 = kk) := hkk
 rw [hkk] at t0
 obtain ⟨nn, hnn⟩ : ∃ nn, ts.length = nn := ⟨_, rfl⟩
 rw [hnn] at b0 hc hp
 clear h t1 t2 t3 t4 b1 z1 hF hsh hT hn hkk hnn
 by_cases k0 : kk = 0
 · have hk : (hd ts).1 = 0 := HKK.out.trans k0
   have e0 : (kk == 0) = true := by rw [k0]; rfl
   clear k0
   have HX : Hid (smp F d ts = (tk1 d ts).bind fun ts1 => .ok (tNum (hd ts).2.2.2.1, ts1)) := by show _ = _; unfold smp; simp [hk, one_eq]
   have H5 : Hid ((hd ts).1 ≠ 5) := by show _ ≠ _; rw [hk]; decide
   clear hk
   go_enter Tryz.func113, Tryz.ntmps113
   go_wp2_with fail
   refine (take_any w0 b d ts _ (HS.out.ext ((Ext.refl _).alloc _)) H5.out).mono ?_
   intro e w2 h2
   rcases h2.cases with ⟨f, hr, rfl, E2⟩ | ⟨us, hr, rfl, S2, E2⟩
   · have hX : smp F d ts = .error f := by rw [HX.out, hr]; rfl
     exact ⟨rfl, (by rw [hX]; exact ⟨rfl, ((ExtB.refl b w).alloc _).trans E2⟩ : PR w0 b w d (smp F d ts) (pft f) w2)⟩
   · have HX2 : Hid (smp F d ts = .ok (tNum (hd ts).2.2.2.1, us)) := by show _ = _; rw [HX.out, hr]; rfl
     have HB : Hid (BlkX w2 w.heap.size tz (.slice none 0 0) ∧ ExtB b w w2) := ⟨(BlkX.top rfl (Ext.refl _)).extB E2 hg0, ((ExtB.refl b w).alloc _).trans E2⟩
     have HS2 : Hid (Stt w0 b w2 us d) := S2
     obtain ⟨qf, ⟨lf0, lf1, lf2, lf3, lf4, lf5, lf6, lf7, lf8, lf9, lf10, lf11, lf12⟩, gf0, gf1, gf2, gf3, gf4, gf5, gf6, gf7, gf8, gf9, gf10, gf11, gf12⟩ := HB.out.1
     clear h2 hr S2 E2
     have fd := fun W => tk_field3 (hd ts) W
     unfold aggT
     go_wp2_with fail
     rw [HX2.out]
     exact endP (W := w2) (g := w.heap.size) (t := tNum (hd ts).2.2.2.1) (ts := us) (w.heap.size + 1 ≤ ·) HB.out.1 rfl .nil (fun k hk => ⟨by omega, by omega⟩) HS2.out hg0 (Nat.le_refl _) HZ.out HB.out.2 (Ext.refl _) (fun h0 h1 h2 h3 h4 h5 h6 h7 h8 h9 h10 h11 h12 => by simp [results, Tryz.results113, go_sem, h0, h1, h2, h3, h4, h5, h6, h7, h8, h9, h10, h11, h12, aggX])
 by_cases k1 : kk = 1
 · have hk : (hd ts).1 = 1 := HKK.out.trans k1
   have e0 : (kk == 0) = false := by rw [k1]; rfl
   have e1 : (kk == 1) = true := by rw [k1]; rfl
   clear k0 k1
   have HX : Hid (smp F d ts = (tk1 d ts).bind fun ts1 => .ok (tText (hd ts).2.2.1, ts1)) := by show _ = _; unfold smp; simp [hk, one_eq]
   have H5 : Hid ((hd ts).1 ≠ 5) := by show _ ≠ _; rw [hk]; decide
   clear hk
   go_enter Tryz.func113, Tryz.ntmps113
   go_wp2_with fail
   refine (take_any w0 b d ts _ (HS.out.ext ((Ext.refl _).alloc _)) H5.out).mono ?_
   intro e w2 h2
   rcases h2.cases with ⟨f, hr, rfl, E2⟩ | ⟨us, hr, rfl, S2, E2⟩
   · have hX : smp F d ts = .error f := by rw [HX.out, hr]; rfl
     exact ⟨rfl, (by rw [hX]; exact ⟨rfl, ((ExtB.refl b w).alloc _).trans E2⟩ : PR w0 b w d (smp F d ts) (pft f) w2)⟩
   · have HX2 : Hid (smp F d ts = .ok (tText (hd ts).2.2.1, us)) := by show _ = _; rw [HX.out, hr]; rfl
     have HB : Hid (BlkX w2 w.heap.size tz (.slice none 0 0) ∧ ExtB b w w2) := ⟨(BlkX.top rfl (Ext.refl _)).extB E2 hg0, ((ExtB.refl b w).alloc _).trans E2⟩
     have HS2 : Hid (Stt w0 b w2 us d) := S2
     obtain ⟨qf, ⟨lf0, lf1, lf2, lf3, lf4, lf5, lf6, lf7, lf8, lf9, lf10, lf11, lf12⟩, gf0, gf1, gf2, gf3, gf4, gf5, gf6, gf7, gf8, gf9, gf10, gf11, gf12⟩ := HB.out.1
     clear h2 hr S2 E2
     have fd := fun W => tk_field2 (hd ts) W
     unfold aggT
     go_wp2_with fail
     rw [HX2.out]
     exact endP (W := w2) (g := w.heap.size) (t := tText (hd ts).2.2.1) (ts := us) (w.heap.size + 1 ≤ ·) HB.out.1 rfl .nil (fun k hk => ⟨by omega, by omega⟩) HS2.out hg0 (Nat.le_refl _) HZ.out HB.out.2 (Ext.refl _) (fun h0 h1 h2 h3 h4 h5 h6 h7 h8 h9 h10 h11 h12 => by simp [results, Tryz.results113, go_sem, h0, h1, h2, h3, h4, h5, h6, h7, h8, h9, h10, h11, h12, aggX])
 by_cases k4 : kk = 4
 · have hk : (hd ts).1 = 4 := HKK.out.trans k4
   have e0 : (kk == 0) = false := by rw [k4]; rfl
   have e1 : (kk == 1) = false := by rw [k4]; rfl
   have e4 : (kk == 4) = true := by rw [k4]; rfl
   clear k0 k1 k4
   have HX : Hid (smp F d ts = (tk1 d ts).bind fun ts1 => .ok (tErr (hd ts).2.2.2.2, ts1)) := by show _ = _; unfold smp; simp [hk, one_eq]
   have H5 : Hid ((hd ts).1 ≠ 5) := by show _ ≠ _; rw [hk]; decide
   clear hk
   go_enter Tryz.func113, Tryz.ntmps113
   go_wp2_with fail
   refine (take_any w0 b d ts _ (HS.out.ext ((Ext.refl _).alloc _)) H5.out).mono ?_
   intro e w2 h2
   rcases h2.cases with ⟨f, hr, rfl, E2⟩ | ⟨us, hr, rfl, S2, E2⟩
   · have hX : smp F d ts = .error f := by rw [HX.out, hr]; rfl
     exact ⟨rfl, (by rw [hX]; exact ⟨rfl, ((ExtB.refl b w).alloc _).trans E2⟩ : PR w0 b w d (smp F d ts) (pft f) w2)⟩
   · have HX2 : Hid (smp F d ts = .ok (tErr (hd ts).2.2.2.2, us)) := by show _ = _; rw [HX.out, hr]; rfl
     have HB : Hid (BlkX w2 w.heap.size tz (.slice none 0 0) ∧ ExtB b w w2) := ⟨(BlkX.top rfl (Ext.refl _)).extB E2 hg0, ((ExtB.refl b w).alloc _).trans E2⟩
     have HS2 : Hid (Stt w0 b w2 us d) := S2
     obtain ⟨qf, ⟨lf0, lf1, lf2, lf3, lf4, lf5, lf6, lf7, lf8, lf9, lf10, lf11, lf12⟩, gf0, gf1, gf2, gf3, gf4, gf5, gf6, gf7, gf8, gf9, gf10, gf11, gf12⟩ := HB.out.1
     clear h2 hr S2 E2
     have fd := fun W => tk_field4 (hd ts) W
     unfold aggT
     go_wp2_with fail
     rw [HX2.out]
     exact endP (W := w2) (g := w.heap.size) (t := tErr (hd ts).2.2.2.2) (ts := us) (w.heap.size + 1 ≤ ·) HB.out.1 rfl .nil (fun k hk => ⟨by omega, by omega⟩) HS2.out hg0 (Nat.le_refl _) HZ.out HB.out.2 (Ext.refl _) (fun h0 h1 h2 h3 h4 h5 h6 h7 h8 h9 h10 h11 h12 => by simp [results, Tryz.results113, go_sem, h0, h1, h2, h3, h4, h5, h6, h7, h8, h9, h10, h11, h12, aggX])
 have e0 : (kk == 0) = false := by simpa using k0
 have e1 : (kk == 1) = false := by simpa using k1
 have e4 : (kk == 4) = false := by simpa using k4
 by_cases k2 : kk = 2
 · have e2 : (kk == 2) = true := by rw [k2]; rfl
   have HX : Hid (smp F d ts = wrd F d ts) := by show _ = _; unfold smp; simp [HKK.out, k2]
   have H2 : Hid ((hd ts).1 = 2) := HKK.out.trans k2
   clear k0 k1 k4 k2
   go_enter Tryz.func113, Tryz.ntmps113
   go_wp2_with fail
   refine (word_any w0 b d n F ts _ HF.out.1 HF.out.2.1 HF.out.2.2 (HS.out.ext ((Ext.refl _).alloc _)) H2.out HN.out).mono ?_
   intro e w2 h2
   rcases h2.cases with ⟨f, hr, rfl, E2⟩ | ⟨x, us, pp, ln, cl, hr, rfl, hL, S2, E2⟩
   · exact ⟨rfl, (by rw [HX.out, hr]; exact ⟨rfl, ((ExtB.refl b w).alloc _).trans E2⟩ : PR w0 b w d (smp F d ts) (pft f) w2)⟩
   · have HX2 : Hid (smp F d ts = .ok (x, us)) := HX.out.trans hr
     have HB : Hid (BlkX w2 w.heap.size tz (.slice none 0 0) ∧ ExtB b w w2) := ⟨(BlkX.top rfl (Ext.refl _)).extB E2 hg0, ((ExtB.refl b w).alloc _).trans E2⟩
     have HL2 : Hid (IsL w2 (w.heap.size + 1 ≤ ·) (.slice pp ln cl) x.l) := hL.mono (fun k hk _ => by simp at hk; exact hk)
     have HS2 : Hid (Stt w0 b w2 us d) := S2
     obtain ⟨qf, ⟨lf0, lf1, lf2, lf3, lf4, lf5, lf6, lf7, lf8, lf9, lf10, lf11, lf12⟩, gf0, gf1, gf2, gf3, gf4, gf5, gf6, gf7, gf8, gf9, gf10, gf11, gf12⟩ := HB.out.1
     clear h2 hr S2 E2 hL
     unfold aggX
     go_wp2_with fail
     rw [HX2.out]
     exact endP (W := w2) (g := w.heap.size) (t := x) (ts := us) (w.heap.size + 1 ≤ ·) HB.out.1 rfl HL2.out (fun k hk => ⟨by omega, by omega⟩) HS2.out hg0 (Nat.le_refl _) HZ.out HB.out.2 (Ext.refl _) (fun h0 h1 h2 h3 h4 h5 h6 h7 h8 h9 h10 h11 h12 => by simp [results, Tryz.results113, go_sem, h0, h1, h2, h3, h4, h5, h6, h7, h8, h9, h10, h11, h12, aggX])
 · have e2 : (kk == 2) = false := by simpa using k2
   have HX : Hid (smp F d ts = brk F d ts) := by show _ = _; unfold smp; simp [HKK.out, k0, k1, k2, k4]
   clear k0 k1 k4 k2
   go_enter Tryz.func113, Tryz.ntmps113
   go_wp2_with fail
   refine (bracketed_any w0 b d n F 27 #[.pointer (some ⟨b, 0, none⟩)] #[] ts _ (fun W => enters_of Tryz.func27 (by kernel_rfl) rfl _ W) (HS.out.ext ((Ext.refl _).alloc _)) HN.out (fun w' us' d' _ hS hn => HF.out.1 w' us' d' hS hn)).mono ?_
   intro e w2 h2
   rcases h2.cases with ⟨f, hr, rfl, E2⟩ | ⟨x, us, pp, ln, cl, hr, rfl, hL, S2, E2⟩
   · exact ⟨rfl, (by rw [HX.out, hr]; exact ⟨rfl, ((ExtB.refl b w).alloc _).trans E2⟩ : PR w0 b w d (smp F d ts) (pft f) w2)⟩
   · have HX2 : Hid (smp F d ts = .ok (x, us)) := HX.out.trans hr
     have HB : Hid (BlkX w2 w.heap.size tz (.slice none 0 0) ∧ ExtB b w w2) := ⟨(BlkX.top rfl (Ext.refl _)).extB E2 hg0, ((ExtB.refl b w).alloc _).trans E2⟩
     have HL2 : Hid (IsL w2 (w.heap.size + 1 ≤ ·) (.slice pp ln cl) x.l) := hL.mono (fun k hk _ => by simp at hk; exact hk)
     have HS2 : Hid (Stt w0 b w2 us d) := S2
     obtain ⟨qf, ⟨lf0, lf1, lf2, lf3, lf4, lf5, lf6, lf7, lf8, lf9, lf10, lf11, lf12⟩, gf0, gf1, gf2, gf3, gf4, gf5, gf6, gf7, gf8, gf9, gf10, gf11, gf12⟩ := HB.out.1
     clear h2 hr S2 E2 hL
     unfold aggX
     go_wp2_with fail
     rw [HX2.out]
     exact endP (W := w2) (g := w.heap.size) (t := x) (ts := us) (w.heap.size + 1 ≤ ·) HB.out.1 rfl HL2.out (fun k hk => ⟨by omega, by omega⟩) HS2.out hg0 (Nat.le_refl _) HZ.out HB.out.2 (Ext.refl _) (fun h0 h1 h2 h3 h4 h5 h6 h7 h8 h9 h10 h11 h12 => by simp [results, Tryz.results113, go_sem, h0, h1, h2, h3, h4, h5, h6, h7, h8, h9, h10, h11, h12, aggX])
set_option maxRecDepth 100000 in
theorem operand_any (w0 : World) (b d n : Nat) (F G : Rd) (ts : List Tk) (w : World) (hF : RdF w0 b n F 27) (hG : RdF w0 b n G 84) (hsh : ShF n F) (hT : Tab w0) (h : Stt w0 b w ts d) (hn : ts.length ≤ n + 1) :
   Calls Tryz.prog 84 #[.pointer (some ⟨b, 0, none⟩)] w (PR w0 b w d (opn F G d ts)) := by
 have h3 := h.2.2.1
 have HS : Hid (Stt w0 b w ts d) := h
 have HZ : Hid (w0.heap.size ≤ w.heap.size) := h.1.sz
 have hg0 : w.heap.size ≠ b := by omega
 have HF : Hid (RdF w0 b n F 27 ∧ ShF n F ∧ Tab w0) := ⟨hF, hsh, hT⟩
 have HN : Hid (ts.length ≤ n + 1) := hn
 have hmf : ∀ (fn : Fn) (first cap : Array Value) (w : World), (Instr.makeFunc fn first cap).run Tryz.prog w = .ok (.func fn first cap) w := fun _ _ _ _ => rfl
 have HG : Hid (RdF w0 b n G 84) := hG
 have c1 := isSign_any w0 b d ts ⟨#[45]⟩ (w.alloc (.cells #[.int .i64 0, .int .i64 0, .string ⟨#[]⟩, .int .i64 0, .int .i64 0, .int .i64 0, .bool false, .bool false, .int .i64 0, .int .i64 0, .bool false, .bool false, .slice none 0 0] 29)) (h.ext ((Ext.refl _).alloc _))
 have e45 : (⟨#[45]⟩ : ByteArray).data.toList = [45] := rfl
 rw [e45] at c1
 clear h hF hsh hT hn hG e45
 cases hsg : isSg [45] ts
 · rw [hsg] at c1
   have HX : Hid (opn F G d ts = smp F d ts) := by show _ = _; unfold opn; rw [hsg]; rfl
   clear hsg
   go_enter Tryz.func84, Tryz.ntmps84
   go_wp2_with fail
   refine c1.mono ?_
   rintro e w1 ⟨rfl, E1⟩
   clear c1
   have HE1 : Hid (Ext (w.alloc (.cells #[.int .i64 0, .int .i64 0, .string ⟨#[]⟩, .int .i64 0, .int .i64 0, .int .i64 0, .bool false, .bool false, .int .i64 0, .int .i64 0, .bool false, .bool false, .slice none 0 0] 29)) w1) := E1
   clear E1
   go_wp2_with fail
   refine (simple_any w0 b d n F ts w1 HF.out.1 HF.out.2.1 HF.out.2.2 ((HS.out.ext ((Ext.refl _).alloc _)).ext HE1.out) HN.out).mono ?_
   intro e w2 h2
   have Y1 : ExtB b w w1 := ((((Ext.refl w).alloc _).trans HE1.out).toB b)
   rcases h2.cases with ⟨f, hr, rfl, E2⟩ | ⟨x, us, pp, ln, cl, hr, rfl, hL, S2, E2⟩
   · exact ⟨rfl, (by rw [HX.out, hr]; exact ⟨rfl, Y1.trans E2⟩ : PR w0 b w d (opn F G d ts) (pft f) w2)⟩
   · have HX2 : Hid (opn F G d ts = .ok (x, us)) := HX.out.trans hr
     have HB : Hid (BlkX w2 w.heap.size tz (.slice none 0 0) ∧ ExtB b w w2) := ⟨(BlkX.top rfl HE1.out).extB E2 hg0, Y1.trans E2⟩
     have HL2 : Hid (IsL w2 (w.heap.size + 1 ≤ ·) (.slice pp ln cl) x.l) := hL.mono (fun k hk _ => by have := HE1.out.sz; simp at this; omega)
     have HS2 : Hid (Stt w0 b w2 us d) := S2
     obtain ⟨qf, ⟨lf0, lf1, lf2, lf3, lf4, lf5, lf6, lf7, lf8, lf9, lf10, lf11, lf12⟩, gf0, gf1, gf2, gf3, gf4, gf5, gf6, gf7, gf8, gf9, gf10, gf11, gf12⟩ := HB.out.1
     clear h2 hr S2 E2 hL Y1
     unfold aggX
     go_wp2_with fail
     rw [HX2.out]
     exact endP (W := w2) (g := w.heap.size) (t := x) (ts := us) (w.heap.size + 1 ≤ ·) HB.out.1 rfl HL2.out (fun k hk => ⟨by omega, by omega⟩) HS2.out hg0 (Nat.le_refl _) HZ.out HB.out.2 (Ext.refl _) (fun h0 h1 h2 h3 h4 h5 h6 h7 h8 h9 h10 h11 h12 => by simp [results, Tryz.results84, go_sem, h0, h1, h2, h3, h4, h5, h6, h7, h8, h9, h10, h11, h12, aggX])
 · have H5 : Hid ((hd ts).1 ≠ 5) := by show _ ≠ _; rw [(isSg_k hsg).1]; decide
   have HX : Hid (opn F G d ts = (tk1 d ts).bind fun ts1 => (G (d + 1) ts1).bind fun x => .ok (tNeg x.1, x.2)) := opn_eq F G d ts hsg
   rw [hsg] at c1
   clear hsg
   go_enter Tryz.func84, Tryz.ntmps84
   go_wp2_with fail
   refine c1.mono ?_
   rintro e w1 ⟨rfl, E1⟩
   clear c1
   have HE1 : Hid (Ext (w.alloc (.cells #[.int .i64 0, .int .i64 0, .string ⟨#[]⟩, .int .i64 0, .int .i64 0, .int .i64 0, .bool false, .bool false, .int .i64 0, .int .i64 0, .bool false, .bool false, .slice none 0 0] 29)) w1) := E1
   clear E1
   go_wp2_with fail
   refine (take_any w0 b d ts w1 ((HS.out.ext ((Ext.refl _).alloc _)).ext HE1.out) H5.out).mono ?_
   intro e w2 h2
   have Y1 : ExtB b w w1 := ((((Ext.refl w).alloc _).trans HE1.out).toB b)
   rcases h2.cases with ⟨f, hr, rfl, E2⟩ | ⟨us, hr, rfl, S2, E2⟩
   · have hX : opn F G d ts = .error f := by rw [HX.out, hr]; rfl
     exact ⟨rfl, (by rw [hX]; exact ⟨rfl, Y1.trans E2⟩ : PR w0 b w d (opn F G d ts) (pft f) w2)⟩
   · have s1 := tk1_sh HS.out.2.2.2.1 H5.out hr
     have hd40 : d ≤ 40 := by
       unfold tk1 at hr
       split at hr
       · cases hr
       · omega
     have HU : Hid (us.length ≤ n) := by show _ ≤ _; have := s1.2; have := HN.out; omega
     have HX2 : Hid (opn F G d ts = (G (d + 1) us).bind fun x => .ok (tNeg x.1, x.2)) := by show _ = _; rw [HX.out, hr]; rfl
     have HB : Hid (BlkX w2 w.heap.size tz (.slice none 0 0) ∧ ExtB b w w2 ∧ w.heap.size + 1 ≤ w2.heap.size) := ⟨(BlkX.top rfl HE1.out).extB E2 hg0, Y1.trans E2, by have := E2.size; have := HE1.out.sz; simp at this; omega⟩
     have HS2 : Hid (Stt w0 b w2 us d) := S2
     have HRK : Hid (RdK w0 b n G 84 (#[.pointer (some ⟨b, 0, none⟩)] ++ #[]) w2) := fun w' us' d' _ hS hn => HG.out w' us' d' hS hn
     clear h2 hr S2 E2 Y1 s1
     go_wp2_with fail
     refine (deeper_any w0 b d n G 84 #[.pointer (some ⟨b, 0, none⟩)] #[] us w2 (fun W => enters_of Tryz.func84 (by kernel_rfl) rfl _ W) HS2.out hd40 HU.out HRK.out).mono ?_
     intro e w3 h3'
     rcases h3'.cases with ⟨f, hr, rfl, E3⟩ | ⟨x, vs, pp, ln, cl, hr, rfl, hL, S3, E3⟩
     · have hX : opn F G d ts = .error f := by rw [HX2.out, hr]; rfl
       exact ⟨rfl, (by rw [hX]; exact ⟨rfl, HB.out.2.1.trans E3⟩ : PR w0 b w d (opn F G d ts) (pft f) w3)⟩
     · have HX3 : Hid (opn F G d ts = .ok (tNeg x, vs)) := by show _ = _; rw [HX2.out, hr]; rfl
       have HB3 : Hid (BlkX w3 w.heap.size tz (.slice none 0 0) ∧ ExtB b w w3) := ⟨HB.out.1.extB E3 hg0, HB.out.2.1.trans E3⟩
       have HL3 : Hid (IsL w3 (w.heap.size + 1 ≤ ·) (.slice pp ln cl) x.l) := hL.mono (fun k hk _ => by have := HB.out.2.2; omega)
       have HS3 : Hid (Stt w0 b w3 vs d) := S3
       have hw3 : w.heap.size + 1 ≤ w3.heap.size := Nat.le_trans HB.out.2.2 E3.size
       obtain ⟨qf, ⟨lf0, lf1, lf2, lf3, lf4, lf5, lf6, lf7, lf8, lf9, lf10, lf11, lf12⟩, gf0, gf1, gf2, gf3, gf4, gf5, gf6, gf7, gf8, gf9, gf10, gf11, gf12⟩ := HB3.out.1
       clear h3' hr hL S3 E3
       unfold aggX
       go_wp2_with fail
       rw [HX3.out]
       have HLn : IsL (w3.alloc (.cells #[.int .i64 x.k, .int .i64 x.n, .string (bs x.s), .int .i64 x.e, .int .i64 x.r.1, .int .i64 x.r.2.1, .bool x.r.2.2.1, .bool x.r.2.2.2, .int .i64 x.q.1, .int .i64 x.q.2.1, .bool x.q.2.2.1, .bool x.q.2.2.2, .slice pp ln cl] 29)) (w.heap.size + 1 ≤ ·) (.slice (some ⟨w3.heap.size, 0, none⟩) 1 1) [x] := (OwX.one hw3 HL3.out rfl).isL
       exact endPa (W := w3) (g := w.heap.size) (t := tNeg x) (ts := vs) (w.heap.size + 1 ≤ ·) HB3.out.1 rfl HLn (fun k hk => ⟨by omega, by omega⟩) HS3.out hg0 (Nat.le_refl _) HZ.out HB3.out.2 (fun h0 h1 h2 h3 h4 h5 h6 h7 h8 h9 h10 h11 h12 => by simp [results, Tryz.results84, go_sem, h0, h1, h2, h3, h4, h5, h6, h7, h8, h9, h10, h11, h12, aggX])
end Go.Proofs.YtcggiljlilbdfaaGreatDoor
