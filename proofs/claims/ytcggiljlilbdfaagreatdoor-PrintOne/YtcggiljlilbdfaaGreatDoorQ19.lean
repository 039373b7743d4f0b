/-
 The contracts of deeper and bracketed, by whichever reading.
-/
import Derived.Test.YtcggiljlilbdfaaGreatDoorQ18
namespace Go.Proofs.YtcggiljlilbdfaaGreatDoor
open Go.RowKit
set_option maxHeartbeats 1000000

/-- The end of a reading: the result is stored into its block. -/
theorem endP {fn : Func} {a : Act} {w0 w W W' : World} {b d g : Nat} {t t0 : T} {lv lv0 : Value} {ts : List Tk} (P : Nat → Prop) (B0 : BlkX W g t0 lv0) (hd : a.defers = []) (hL : IsL W P lv t.l) (hP : ∀ k, P k → k ≠ g ∧ w.heap.size ≤ k) (hS : Stt w0 b W ts d) (hg : g ≠ b) (hgw : w.heap.size ≤ g) (h0 : w0.heap.size ≤ w.heap.size) (hE : ExtB b w W) (hW : Ext (putX W g t lv) W')
   (hr : W'.cell? ⟨g, 0, none⟩ = some (.int .i64 t.k) → W'.cell? ⟨g, 1, none⟩ = some (.int .i64 t.n) → W'.cell? ⟨g, 2, none⟩ = some (.string (bs t.s)) → W'.cell? ⟨g, 3, none⟩ = some (.int .i64 t.e) → W'.cell? ⟨g, 4, none⟩ = some (.int .i64 t.r.1) → W'.cell? ⟨g, 5, none⟩ = some (.int .i64 t.r.2.1) → W'.cell? ⟨g, 6, none⟩ = some (.bool t.r.2.2.1) → W'.cell? ⟨g, 7, none⟩ = some (.bool t.r.2.2.2) → W'.cell? ⟨g, 8, none⟩ = some (.int .i64 t.q.1) → W'.cell? ⟨g, 9, none⟩ = some (.int .i64 t.q.2.1) → W'.cell? ⟨g, 10, none⟩ = some (.bool t.q.2.2.1) → W'.cell? ⟨g, 11, none⟩ = some (.bool t.q.2.2.2) → W'.cell? ⟨g, 12, none⟩ = some lv → (results fn a.tmps).run Tryz.prog W' = .ok (aggX t lv) W') :
   bodyPost Tryz.prog fn (PR w0 b w d (.ok (t, ts))) .ret a W' :=
 endX (P := P) ((B0.put t lv).ext hW) hd ((putX_L hL (fun k hk => (hP k hk).1)).ext hW) (fun k hk => (hP k hk).2) ((putX_S hS hg (Nat.le_trans h0 hgw) t lv).ext hW) ((putX_B hE hgw t lv).trans (hW.toB b)) hr
/-- A function value reads as F does, of lists up to so long. -/
def RdK (w0 : World) (b n : Nat) (F : Rd) (K : FuncId) (A : Array Value) (w : World) : Prop := ∀ w' ts d, ExtB b w w' → Stt w0 b w' ts d → ts.length ≤ n → Calls Tryz.prog K A w' (PR w0 b w' d (F d ts))
theorem RdK.ext {w0 : World} {b n : Nat} {F : Rd} {K : FuncId} {A : Array Value} {w w' : World} (h : RdK w0 b n F K A w) (e : ExtB b w w') : RdK w0 b n F K A w' := fun w2 ts d e2 hS hn => h w2 ts d (e.trans e2) hS hn
set_option maxRecDepth 100000 in
theorem deeper_any (w0 : World) (b d n : Nat) (F : Rd) (K : FuncId) (fs cs : Array Value) (ts : List Tk) (w : World) (hent : ∀ W, (callFunc K (fs ++ cs)).run Tryz.prog W = .ok (.enter K (fs ++ cs)) W) (h : Stt w0 b w ts d) (hd40 : d ≤ 40) (hn : ts.length ≤ n) (hK : RdK w0 b n F K (fs ++ cs) w) :
   Calls Tryz.prog 112 #[.pointer (some ⟨b, 0, none⟩), .func (.func K) fs cs] w (PR w0 b w d (F (d + 1) ts)) := by
 have h3 := h.2.2.1
 have HS : Hid (Stt w0 b w ts d) := h
 have HZ : Hid (w0.heap.size ≤ w.heap.size) := h.1.sz
 obtain ⟨tb, off, cc, b0, z0, b1, z1, t0, t1, t2, t3, t4, hne, hc, hp, hs⟩ := h.get
 have hg0 : w.heap.size ≠ b := by omega
 have HK : Hid (RdK w0 b n F K (fs ++ cs) w) := hK
 have HN : Hid (ts.length ≤ n) := hn
 clear h t0 t1 t2 t3 t4 b0 z0 hne hc hp hs hK hn
 go_enter Tryz.func112, Tryz.ntmps112
 go_wp2_with fail
 have S1 : Stt w0 b ((w.setCell ⟨b, 1, none⟩ (.int .i64 ((d : Int) + 1))).alloc (.cells #[.int .i64 0, .int .i64 0, .string ⟨#[]⟩, .int .i64 0, .int .i64 0, .int .i64 0, .bool false, .bool false, .int .i64 0, .int .i64 0, .bool false, .bool false, .slice none 0 0] 29)) ts (d + 1) := (HS.out.deep (d + 1) (by omega)).ext ((Ext.refl _).alloc _)
 have E1 : ExtB b w ((w.setCell ⟨b, 1, none⟩ (.int .i64 ((d : Int) + 1))).alloc (.cells #[.int .i64 0, .int .i64 0, .string ⟨#[]⟩, .int .i64 0, .int .i64 0, .int .i64 0, .bool false, .bool false, .int .i64 0, .int .i64 0, .bool false, .bool false, .slice none 0 0] 29)) := ((ExtB.refl b w).set (.inl rfl) _).alloc _
 have B1 : BlkX ((w.setCell ⟨b, 1, none⟩ (.int .i64 ((d : Int) + 1))).alloc (.cells #[.int .i64 0, .int .i64 0, .string ⟨#[]⟩, .int .i64 0, .int .i64 0, .int .i64 0, .bool false, .bool false, .int .i64 0, .int .i64 0, .bool false, .bool false, .slice none 0 0] 29)) w.heap.size tz (.slice none 0 0) := BlkX.top (by simp [World.setCell]) (Ext.refl _)
 have hsz : ((w.setCell ⟨b, 1, none⟩ (.int .i64 ((d : Int) + 1))).alloc (.cells #[.int .i64 0, .int .i64 0, .string ⟨#[]⟩, .int .i64 0, .int .i64 0, .int .i64 0, .bool false, .bool false, .int .i64 0, .int .i64 0, .bool false, .bool false, .slice none 0 0] 29)).heap.size = w.heap.size + 1 := by simp [World.setCell]
 generalize (w.setCell ⟨b, 1, none⟩ (.int .i64 ((d : Int) + 1))).alloc (.cells #[.int .i64 0, .int .i64 0, .string ⟨#[]⟩, .int .i64 0, .int .i64 0, .int .i64 0, .bool false, .bool false, .int .i64 0, .int .i64 0, .bool false, .bool false, .slice none 0 0] 29) = W1 at *
 have c1 := HK.out W1 ts (d + 1) E1 S1 HN.out
 cases hr : F (d + 1) ts with
 | error f =>
   rw [hr] at c1
   refine c1.mono ?_
   rintro e w2 ⟨rfl, E2⟩
   exact ⟨rfl, rfl, E1.trans E2⟩
 | ok a =>
   rw [hr] at c1
   refine c1.mono ?_
   rintro e w2 ⟨⟨lv, rfl, hL⟩, S2, E2⟩
   obtain ⟨x, ts'⟩ := a
   have HX : Hid (F (d + 1) ts = .ok (x, ts')) := hr
   simp only [] at hL S2
   obtain ⟨pp, cl, hlv, hcl⟩ := hL.form
   obtain ⟨ln, hln⟩ : ∃ ln, x.l.length = ln := ⟨_, rfl⟩
   rw [hln] at hlv
   subst hlv
   have hw2 : w.heap.size + 1 ≤ w2.heap.size := by rw [← hsz]; exact E2.size
   have HB : Hid (BlkX w2 w.heap.size tz (.slice none 0 0)) := B1.extB E2 hg0
   have HL : Hid (IsL w2 (w.heap.size + 1 ≤ ·) (.slice pp ln cl) x.l) := by rw [hsz] at hL; exact hL
   have HE : Hid (ExtB b w w2) := E1.trans E2
   have HS2 : Hid (Stt w0 b w2 ts' (d + 1)) := S2
   obtain ⟨tb', off', cc', b0', z0', b1', z1', t0', t1', t2', t3', t4', hne', hc', hp', hs'⟩ := S2.get
   have hb2 : b < w2.heap.size := S2.2.2.1
   have b2 : w2.cell? ⟨b, 1, none⟩ = some (.int .i64 ((d : Int) + 1)) := b1'
   obtain ⟨q, ⟨l0, l1, l2, l3, l4, l5, l6, l7, l8, l9, l10, l11, l12⟩, g0, g1, g2, g3, g4, g5, g6, g7, g8, g9, g10, g11, g12⟩ := HB.out
   clear b0' z0' t0' t1' t2' t3' t4' hne' hc' hp' hs' S2 E2 E1 S1 B1 hL hsz b1' c1 hr hln hcl b1 z1
   unfold aggX
   go_wp2_with fail
   rw [HX.out]
   refine endP (W := w2.setCell ⟨b, 1, none⟩ (.int .i64 (d : Int))) (g := w.heap.size) (t := x) (ts := ts') (w.heap.size + 1 ≤ ·) (Blk13.far1 HB.out (fun e => hg0 e.symm) _ _) rfl (HL.out.keep (by simp [World.setCell]) (fun k hk _ => Below.heap_setCell _ _ _ _ (by show k ≠ b; omega)) (fun _ h _ => h)) (fun k hk => ⟨by omega, by omega⟩) (HS2.out.deep d (by omega)) hg0 (Nat.le_refl _) HZ.out (HE.out.set (.inl rfl) _) ((Ext.refl _).alloc _) (fun h0 h1 h2 h3 h4 h5 h6 h7 h8 h9 h10 h11 h12 => by simp [results, Tryz.results112, go_sem, h0, h1, h2, h3, h4, h5, h6, h7, h8, h9, h10, h11, h12, aggX])
set_option maxRecDepth 100000 in
theorem bracketed_any (w0 : World) (b d n : Nat) (F : Rd) (K : FuncId) (fs cs : Array Value) (ts : List Tk) (w : World) (hent : ∀ W, (callFunc K (fs ++ cs)).run Tryz.prog W = .ok (.enter K (fs ++ cs)) W) (h : Stt w0 b w ts d) (hn : ts.length ≤ n + 1) (hK : RdK w0 b n F K (fs ++ cs) w) :
   Calls Tryz.prog 135 #[.pointer (some ⟨b, 0, none⟩), .func (.func K) fs cs] w (PR w0 b w d (brk F d ts)) := by
 have h3 := h.2.2.1
 have HS : Hid (Stt w0 b w ts d) := h
 have HZ : Hid (w0.heap.size ≤ w.heap.size) := h.1.sz
 have hg0 : w.heap.size ≠ b := by omega
 have HK : Hid (RdK w0 b n F K (fs ++ cs) w) := hK
 have HN : Hid (ts.length ≤ n + 1) := hn
 have HX : Hid (brk F d ts = (pass1 [40] d ts).bind fun ts1 => (F (d + 1) ts1).bind fun x => (pass1 [41] d x.2).bind fun ts3 => .ok (x.1, ts3)) := brk_eq F d ts
 have c1 := pass_any w0 b d ts ⟨#[40]⟩ (w.alloc (.cells #[.int .i64 0, .int .i64 0, .string ⟨#[]⟩, .int .i64 0, .int .i64 0, .int .i64 0, .bool false, .bool false, .int .i64 0, .int .i64 0, .bool false, .bool false, .slice none 0 0] 29)) (h.ext ((Ext.refl _).alloc _))
 have e40 : (⟨#[40]⟩ : ByteArray).data.toList = [40] := rfl
 rw [e40] at c1
 have B1 : BlkX (w.alloc (.cells #[.int .i64 0, .int .i64 0, .string ⟨#[]⟩, .int .i64 0, .int .i64 0, .int .i64 0, .bool false, .bool false, .int .i64 0, .int .i64 0, .bool false, .bool false, .slice none 0 0] 29)) w.heap.size tz (.slice none 0 0) := BlkX.top rfl (Ext.refl _)
 have E1 : ExtB b w (w.alloc (.cells #[.int .i64 0, .int .i64 0, .string ⟨#[]⟩, .int .i64 0, .int .i64 0, .int .i64 0, .bool false, .bool false, .int .i64 0, .int .i64 0, .bool false, .bool false, .slice none 0 0] 29)) := (ExtB.refl b w).alloc _
 have hsz : (w.alloc (.cells #[.int .i64 0, .int .i64 0, .string ⟨#[]⟩, .int .i64 0, .int .i64 0, .int .i64 0, .bool false, .bool false, .int .i64 0, .int .i64 0, .bool false, .bool false, .slice none 0 0] 29)).heap.size = w.heap.size + 1 := by simp
 have HB1 : Hid (BlkX (w.alloc (.cells #[.int .i64 0, .int .i64 0, .string ⟨#[]⟩, .int .i64 0, .int .i64 0, .int .i64 0, .bool false, .bool false, .int .i64 0, .int .i64 0, .bool false, .bool false, .slice none 0 0] 29)) w.heap.size tz (.slice none 0 0)) := B1
 have HE1 : Hid (ExtB b w (w.alloc (.cells #[.int .i64 0, .int .i64 0, .string ⟨#[]⟩, .int .i64 0, .int .i64 0, .int .i64 0, .bool false, .bool false, .int .i64 0, .int .i64 0, .bool false, .bool false, .slice none 0 0] 29)) ∧ (w.alloc (.cells #[.int .i64 0, .int .i64 0, .string ⟨#[]⟩, .int .i64 0, .int .i64 0, .int .i64 0, .bool false, .bool false, .int .i64 0, .int .i64 0, .bool false, .bool false, .slice none 0 0] 29)).heap.size = w.heap.size + 1) := ⟨E1, hsz⟩
 clear h hK hn e40 B1 E1 hsz
 cases hp : pass1 [40] d ts with
 | error f =>
   rw [hp] at c1 HX
   clear hp
   go_enter Tryz.func135, Tryz.ntmps135
   go_wp2_with fail
   refine c1.mono ?_
   rintro e w2 ⟨rfl, E2⟩
   rw [HX.out]
   exact ⟨rfl, rfl, HE1.out.1.trans E2⟩
 | ok ts1 =>
   have hsh := pass1_sh HS.out.2.2.2.1 hp
   have hd40 : d ≤ 40 := by
     unfold pass1 tk1 at hp
     split at hp
     · split at hp
       · cases hp
       · omega
     · cases hp
   have HN1 : Hid (ts1.length ≤ n) := by show _ ≤ _; have := hsh.2; have := HN.out; omega
   rw [hp] at c1 HX
   clear hp hsh
   go_enter Tryz.func135, Tryz.ntmps135
   go_wp2_with fail
   refine c1.mono ?_
   rintro e w2 ⟨rfl, S2, E2⟩
   clear c1
   have HB2 : Hid (BlkX w2 w.heap.size tz (.slice none 0 0)) := HB1.out.extB E2 hg0
   have HE2 : Hid (ExtB b w w2 ∧ w.heap.size + 1 ≤ w2.heap.size) := ⟨HE1.out.1.trans E2, by rw [← HE1.out.2]; exact E2.size⟩
   have c2 := deeper_any w0 b d n F K fs cs ts1 w2 hent S2 hd40 HN1.out (HK.out.ext HE2.out.1)
   clear S2 E2 HB1 HE1
   cases hr : F (d + 1) ts1 with
   | error f =>
     rw [hr] at c2
     have HX2 : Hid (brk F d ts = .error f) := by show _ = _; rw [HX.out]; show (F (d + 1) ts1).bind _ = _; rw [hr]; rfl
     go_wp2_with fail
     refine c2.mono ?_
     rintro e w3 ⟨rfl, E3⟩
     rw [HX2.out]
     exact ⟨rfl, rfl, HE2.out.1.trans E3⟩
   | ok a =>
     obtain ⟨x, ts2⟩ := a
     rw [hr] at c2
     have HX2 : Hid (brk F d ts = (pass1 [41] d ts2).bind fun ts3 => .ok (x, ts3)) := by show _ = _; rw [HX.out]; show (F (d + 1) ts1).bind _ = _; rw [hr]; rfl
     clear hr
     go_wp2_with fail
     refine c2.mono ?_
     rintro e w3 ⟨⟨lv, rfl, hL⟩, S3, E3⟩
     clear c2
     simp only [] at hL S3
     obtain ⟨pp, cl, hlv, hcl⟩ := hL.form
     obtain ⟨ln, hln⟩ : ∃ ln, x.l.length = ln := ⟨_, rfl⟩
     rw [hln] at hlv
     subst hlv
     clear hcl hln
     have hw3 : w.heap.size + 1 ≤ w3.heap.size := Nat.le_trans HE2.out.2 E3.size
     have HL : Hid (IsL w3 (fun k => w.heap.size + 1 ≤ k ∧ k ≠ w3.heap.size) (.slice pp ln cl) x.l) := hL.mono (fun k hk hs => ⟨by have := HE2.out.2; omega, by omega⟩)
     have HB3 : Hid (BlkX w3 w.heap.size tz (.slice none 0 0)) := HB2.out.extB E3 hg0
     have HE3 : Hid (ExtB b w w3) := HE2.out.1.trans E3
     have c3 := pass_any w0 b d ts2 ⟨#[41]⟩ (w3.alloc (.cells #[.int .i64 x.k, .int .i64 x.n, .string (bs x.s), .int .i64 x.e, .int .i64 x.r.1, .int .i64 x.r.2.1, .bool x.r.2.2.1, .bool x.r.2.2.2, .int .i64 x.q.1, .int .i64 x.q.2.1, .bool x.q.2.2.1, .bool x.q.2.2.2, .slice pp ln cl] 29)) (S3.ext ((Ext.refl _).alloc _))
     have e41 : (⟨#[41]⟩ : ByteArray).data.toList = [41] := rfl
     rw [e41] at c3
     have HB4 : Hid (BlkX (w3.alloc (.cells #[.int .i64 x.k, .int .i64 x.n, .string (bs x.s), .int .i64 x.e, .int .i64 x.r.1, .int .i64 x.r.2.1, .bool x.r.2.2.1, .bool x.r.2.2.2, .int .i64 x.q.1, .int .i64 x.q.2.1, .bool x.q.2.2.1, .bool x.q.2.2.2, .slice pp ln cl] 29)) w3.heap.size x (.slice pp ln cl)) := blk13_top rfl (Ext.refl _)
     have hb3 : b < w3.heap.size := S3.2.2.1
     clear hL S3 E3 e41 HB2
     unfold aggX
     cases hp : pass1 [41] d ts2 with
     | error f =>
       rw [hp] at c3 HX2
       clear hp
       go_wp2_with fail
       refine c3.mono ?_
       rintro e w4 ⟨rfl, E4⟩
       rw [HX2.out]
       exact ⟨rfl, rfl, (HE3.out.alloc _).trans E4⟩
     | ok ts3 =>
       rw [hp] at c3 HX2
       clear hp
       go_wp2_with fail
       refine c3.mono ?_
       rintro e w4 ⟨rfl, S4, E4⟩
       clear c3
       have hg3 : w3.heap.size ≠ b := by omega
       have HL4 : Hid (IsL w4 (fun k => w.heap.size + 1 ≤ k ∧ k ≠ w3.heap.size) (.slice pp ln cl) x.l) := (HL.out.ext ((Ext.refl _).alloc _)).extB E4 (fun k hk => by omega)
       have HB5 : Hid (BlkX w4 w.heap.size tz (.slice none 0 0)) := (HB3.out.ext ((Ext.refl _).alloc _)).extB E4 hg0
       have HB6 := HB4.out.extB E4 hg3
       have HE4 : Hid (ExtB b w w4) := (HE3.out.alloc _).trans E4
       have HS4 : Hid (Stt w0 b w4 ts3 d) := S4
       obtain ⟨qa, ⟨la0, la1, la2, la3, la4, la5, la6, la7, la8, la9, la10, la11, la12⟩, ga0, ga1, ga2, ga3, ga4, ga5, ga6, ga7, ga8, ga9, ga10, ga11, ga12⟩ := HB5.out
       obtain ⟨qb, ⟨lb0, lb1, lb2, lb3, lb4, lb5, lb6, lb7, lb8, lb9, lb10, lb11, lb12⟩, gb0, gb1, gb2, gb3, gb4, gb5, gb6, gb7, gb8, gb9, gb10, gb11, gb12⟩ := HB6
       clear S4 E4
       go_wp2_with fail
       rw [HX2.out]
       exact endP (W := w4) (g := w.heap.size) (t := x) (ts := ts3) (fun k => w.heap.size + 1 ≤ k ∧ k ≠ w3.heap.size) HB5.out rfl HL4.out (fun k hk => ⟨by omega, by omega⟩) HS4.out hg0 (Nat.le_refl _) HZ.out HE4.out (Ext.refl _) (fun h0 h1 h2 h3 h4 h5 h6 h7 h8 h9 h10 h11 h12 => by simp [results, Tryz.results135, go_sem, h0, h1, h2, h3, h4, h5, h6, h7, h8, h9, h10, h11, h12, aggX])
end Go.Proofs.YtcggiljlilbdfaaGreatDoor
