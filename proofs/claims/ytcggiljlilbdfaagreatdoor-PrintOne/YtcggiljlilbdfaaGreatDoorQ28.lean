/-
 The contract of package lex's Words.
 The contracts of read, whose deferred closure recovers the panic that tells the first fault, and of Formula.
 What becomes of a text's words when blanks, or another text behind a blank, come to it; and where words stand. Plain mathematics: no program in sight.
 The words of a text that a closing bracket, a comma or a blank ends; of a text in brackets, of a call of two texts, of a text with more blanks. Plain mathematics: no program in sight.
-/
import Derived.Test.YtcggiljlilbdfaaGreatDoorQ27
import Derived.BigQuiet
import Derived.Test.YtcggiljlilbdfaaGreatDoorQ17
import Derived.Defers
import Derived.Recover
import Derived.Test.YtcggiljlilbdfaaGreatDoorQ1
namespace Go.Proofs.YtcggiljlilbdfaaGreatDoor
open Go.RowKit
set_option maxHeartbeats 1000000

/-- What Words answers of a text. -/
def WordsQ (w : World) (l : List UInt8) (e : Ending) (w' : World) : Prop :=
 ∃ v, e = .returned (.tuple #[v, .int .i64 (lexR l).2.1, .int .i64 (lexR l).2.2]) ∧ RdT w' v (lexR l).1 ∧ Ext w w'
theorem words_any (s : ByteArray) (w : World) (hs : s.size ≤ maxLen) (hT : Tab7 w) :
   Calls Tryz.prog 15 #[.string s] w (WordsQ w s.data.toList) := by
 unfold maxLen at hs
 have hl := size_list s
 by_cases h : 300 < s.size
 · have hI : (300 : Int) < (s.size : Int) := by omega
   have HX : Hid (lexR s.data.toList = ([], 0, 2)) := by show _ = _; unfold lexR; rw [if_pos (by omega)]
   go_enter Tryz.func15, Tryz.ntmps15
   go_wp2_with fail
   go_ret3
   unfold WordsQ
   rw [HX.out]
   exact ⟨_, rfl, RdT.nil _, Ext.refl _⟩
 · have hI : ¬ (300 : Int) < (s.size : Int) := by omega
   have c1 := read_any s w (by omega) hT
   cases hw : W 0 s.data.toList with
   | ok ts =>
     have HX : Hid (lexR s.data.toList = (ts, 0, 0)) := by show _ = _; unfold lexR; rw [if_neg (by omega), hw]
     have C : Calls Tryz.prog 25 #[.string s] w fun e w' => ∃ v, e = .returned (.tuple #[v, .agg #[.int .i64 0, .int .i64 0]]) ∧ RdT w' v ts ∧ Ext w w' := by unfold ReadQ at c1; rw [hw] at c1; exact c1
     clear c1 hw hT
     go_enter Tryz.func15, Tryz.ntmps15
     go_wp2_with fail
     refine C.mono ?_
     rintro e w1 ⟨v, rfl, hR, hE⟩
     have HR : Hid (RdT w1 v ts ∧ Ext w w1) := ⟨hR, hE⟩
     clear hR hE
     go_wp2_with fail
     have b0 : (w1.alloc (.cells #[.int .i64 0, .int .i64 0] 67)).cell? ⟨w1.heap.size, 0, none⟩ = some (.int .i64 0) := by simp [go_sem]
     have b1 : (w1.alloc (.cells #[.int .i64 0, .int .i64 0] 67)).cell? ⟨w1.heap.size, 1, none⟩ = some (.int .i64 0) := by simp [go_sem]
     have HW : Hid (Ext w1 (w1.alloc (.cells #[.int .i64 0, .int .i64 0] 67))) := (Ext.refl _).alloc _
     generalize w1.alloc (.cells #[.int .i64 0, .int .i64 0] 67) = w2 at *
     go_quiet (fail)
     go_wp2_with fail
     go_ret3
     unfold WordsQ
     rw [HX.out]
     exact ⟨_, rfl, HR.out.1.ext (HW.out.drewN _), HR.out.2.trans (HW.out.drewN _)⟩
   | error x =>
     obtain ⟨x0, x1⟩ := x
     have HX : Hid (lexR s.data.toList = ([], (x0 : Int), x1)) := by show _ = _; unfold lexR; rw [if_neg (by omega), hw]
     have C : Calls Tryz.prog 25 #[.string s] w fun e w' => e = .returned (.tuple #[.slice none 0 0, .agg #[.int .i64 (x0 : Int), .int .i64 x1]]) ∧ Ext w w' := by unfold ReadQ at c1; rw [hw] at c1; exact c1
     clear c1 hw hT
     go_enter Tryz.func15, Tryz.ntmps15
     go_wp2_with fail
     refine C.mono ?_
     rintro e w1 ⟨rfl, hE⟩
     have HR : Hid (Ext w w1) := hE
     clear hE
     go_wp2_with fail
     have b0 : (w1.alloc (.cells #[.int .i64 (x0 : Int), .int .i64 x1] 67)).cell? ⟨w1.heap.size, 0, none⟩ = some (.int .i64 (x0 : Int)) := by simp [go_sem]
     have b1 : (w1.alloc (.cells #[.int .i64 (x0 : Int), .int .i64 x1] 67)).cell? ⟨w1.heap.size, 1, none⟩ = some (.int .i64 x1) := by simp [go_sem]
     have HW : Hid (Ext w1 (w1.alloc (.cells #[.int .i64 (x0 : Int), .int .i64 x1] 67))) := (Ext.refl _).alloc _
     generalize w1.alloc (.cells #[.int .i64 (x0 : Int), .int .i64 x1] 67) = w2 at *
     go_quiet (fail)
     go_wp2_with fail
     go_ret3
     unfold WordsQ
     rw [HX.out]
     exact ⟨_, rfl, RdT.nil _, HR.out.trans (HW.out.drewN _)⟩

open Go.RowKit
set_option maxHeartbeats 6000000

theorem catchP_idle (p q : Addr) (w : World) :
   CallsD Tryz.prog 26 #[.pointer (some p), .pointer (some q)] .returning w fun e u' w' => e = .returned (.tuple #[]) ∧ u' = .returning ∧ w' = w := by
 refine callsD_of_wpS Tryz.func26 rfl fun c₀ cs hu => ?_
 apply wpS_seq
 apply wpS_region
 simp [wpOpsS, go_sem, recoverD, hu, Tryz.ntmps26, Exit.thenS]
 refine wpS_of_wp ?_
 simp only [Array.replicate_succ, Array.replicate_zero, List.push_toArray, List.append_toArray, List.nil_append, List.cons_append, List.setIfInBounds_toArray, List.set_cons_zero, List.set_cons_succ]
 go_wp2
 cases c₀
 simp_all [bodyPostS, results, Tryz.results26]
theorem assert_pfault (x y : Int) (W : World) : (Instr.typeAssert (.iface 50 (.agg #[.int .i64 x, .int .i64 y])) 20 50 false).run Tryz.prog W = .ok (.agg #[.int .i64 x, .int .i64 y]) W := by kernel_rfl
set_option maxRecDepth 100000 in
/-- A panic that tells a fault: the zero tree, and it. -/
theorem catchP_fault (b f : Nat) (x y : Int) (t0 : T) (lv0 o0 o1 : Value) (w0 w : World) (hE : Ext w0 w) (hb : w0.heap.size ≤ b) (hf : w0.heap.size ≤ f) (hbf : b ≠ f) (B : BlkX w b t0 lv0) (c1 : w.cell? ⟨f, 0, none⟩ = some o0) (z1 : w.frozen? ⟨f, 0, none⟩ = false) (c2 : w.cell? ⟨f, 1, none⟩ = some o1) (z2 : w.frozen? ⟨f, 1, none⟩ = false) :
   CallsD Tryz.prog 26 #[.pointer (some ⟨b, 0, none⟩), .pointer (some ⟨f, 0, none⟩)] (.panicking [{ v := .iface 50 (.agg #[.int .i64 x, .int .i64 y]), recovered := false }]) w fun e u' w' => e = .returned (.tuple #[]) ∧ u' = .panicking [{ v := .iface 50 (.agg #[.int .i64 x, .int .i64 y]), recovered := true }] ∧ Ext w0 w' ∧ BlkX w' b tz (.slice none 0 0) ∧ w'.cell? ⟨f, 0, none⟩ = some (.int .i64 x) ∧ w'.cell? ⟨f, 1, none⟩ = some (.int .i64 y) := by
 have HB : Hid (BlkX w b t0 lv0) := B
 have HF : Hid (Ext w0 (((putX w b tz (.slice none 0 0)).setCell ⟨f, 0, none⟩ (.int .i64 x)).setCell ⟨f, 1, none⟩ (.int .i64 y)) ∧ BlkX (((putX w b tz (.slice none 0 0)).setCell ⟨f, 0, none⟩ (.int .i64 x)).setCell ⟨f, 1, none⟩ (.int .i64 y)) b tz (.slice none 0 0) ∧ (((putX w b tz (.slice none 0 0)).setCell ⟨f, 0, none⟩ (.int .i64 x)).setCell ⟨f, 1, none⟩ (.int .i64 y)).cell? ⟨f, 0, none⟩ = some (.int .i64 x) ∧ (((putX w b tz (.slice none 0 0)).setCell ⟨f, 0, none⟩ (.int .i64 x)).setCell ⟨f, 1, none⟩ (.int .i64 y)).cell? ⟨f, 1, none⟩ = some (.int .i64 y)) := by
   have p0 : (putX w b tz (.slice none 0 0)).cell? ⟨f, 0, none⟩ = some o0 := by simp only [World.cell?, putX_heap w b f tz _ (fun e => hbf e.symm)]; exact c1
   have p1 : (putX w b tz (.slice none 0 0)).cell? ⟨f, 1, none⟩ = some o1 := by simp only [World.cell?, putX_heap w b f tz _ (fun e => hbf e.symm)]; exact c2
   have e0 := World.cell?_setCell_same (putX w b tz (.slice none 0 0)) ⟨f, 0, none⟩ (.int .i64 x) (by rw [p0])
   have j1 : ((putX w b tz (.slice none 0 0)).setCell ⟨f, 0, none⟩ (.int .i64 x)).cell? ⟨f, 1, none⟩ = some o1 := by rw [World.cell?_setCell_other _ _ _ _ (by simp)]; exact p1
   have e1 := World.cell?_setCell_same _ ⟨f, 1, none⟩ (.int .i64 y) (by rw [j1])
   refine ⟨((putX_E hE hb _ _).setCell hf _).setCell hf _, Blk13.far1 (Blk13.far1 (B.put tz (.slice none 0 0)) (fun e => hbf e.symm) _ _) (fun e => hbf e.symm) _ _, ?_, e1⟩
   rw [World.cell?_setCell_other _ _ _ _ (by simp)]; exact e0
 have hfb : ¬ f = b := fun e => hbf e.symm
 have hta := assert_pfault x y
 obtain ⟨qa, ⟨la0, la1, la2, la3, la4, la5, la6, la7, la8, la9, la10, la11, la12⟩, ga0, ga1, ga2, ga3, ga4, ga5, ga6, ga7, ga8, ga9, ga10, ga11, ga12⟩ := B
 clear hE hb hf
 refine callsD_of_wpS Tryz.func26 rfl fun c₀ cs hu => ?_
 apply wpS_seq
 apply wpS_region
 simp [wpOpsS, go_sem, recoverD, hu, Tryz.ntmps26, Exit.thenS]
 refine wpS_of_wp ?_
 simp only [Array.replicate_succ, Array.replicate_zero, List.push_toArray, List.append_toArray, List.nil_append, List.cons_append, List.setIfInBounds_toArray, List.set_cons_zero, List.set_cons_succ]
 go_wp2
 go_region_with fail
 all_goals
   rw [show (((((((((((((((w.setCell ⟨b, 0, none⟩ (.int .i64 0)).setCell ⟨b, 1, none⟩ (.int .i64 0)).setCell ⟨b, 2, none⟩ (.string ⟨#[]⟩)).setCell ⟨b, 3, none⟩ (.int .i64 0)).setCell ⟨b, 4, none⟩ (.int .i64 0)).setCell ⟨b, 5, none⟩ (.int .i64 0)).setCell ⟨b, 6, none⟩ (.bool false)).setCell ⟨b, 7, none⟩ (.bool false)).setCell ⟨b, 8, none⟩ (.int .i64 0)).setCell ⟨b, 9, none⟩ (.int .i64 0)).setCell ⟨b, 10, none⟩ (.bool false)).setCell ⟨b, 11, none⟩ (.bool false)).setCell ⟨b, 12, none⟩ (.slice none 0 0)).setCell ⟨f, 0, none⟩ (.int .i64 x)).setCell ⟨f, 1, none⟩ (.int .i64 y)) = (((putX w b tz (.slice none 0 0)).setCell ⟨f, 0, none⟩ (.int .i64 x)).setCell ⟨f, 1, none⟩ (.int .i64 y)) from rfl]
   generalize (((putX w b tz (.slice none 0 0)).setCell ⟨f, 0, none⟩ (.int .i64 x)).setCell ⟨f, 1, none⟩ (.int .i64 y)) = W6 at HF ⊢
   exact ⟨rfl, _, rfl, .tuple #[], results_none rfl _ _ _, rfl, rfl, HF.out.1.drew, HF.out.2.1.ext (Ext.refl _).drew, HF.out.2.2.1, HF.out.2.2.2⟩
/-- What read answers. -/
def PReadQ (w : World) (ts : List Tk) (e : Ending) (w' : World) : Prop := ∃ lv, e = .returned (.tuple #[aggX (prs ts).1 lv, .agg #[.int .i64 (prs ts).2.1, .int .i64 (prs ts).2.2]]) ∧ IsL w' (w.heap.size ≤ ·) lv (prs ts).1.l ∧ Ext w w'
set_option maxRecDepth 100000 in
theorem pread_any (v : Value) (ts : List Tk) (w : World) (hv : RdT w v ts) (hz : Nz ts) (hl : ∀ t ∈ ts, t.2.2.1.length ≤ 300) (hn : ts.length ≤ 400) (hT : Tab w) :
   Calls Tryz.prog 16 #[v] w (PReadQ w ts) := by
 have hpos := hz.pos
 obtain ⟨tb, off, c, hvv⟩ : ∃ tb off c, v = .slice (some ⟨tb, off, none⟩) ts.length c := by
   rcases hv with ⟨_, h2⟩ | ⟨tb, off, c, h2, _⟩
   · rw [h2] at hpos; simp at hpos
   · exact ⟨tb, off, c, h2⟩
 subst hvv
 have HV : Hid (RdT w (.slice (some ⟨tb, off, none⟩) ts.length c) ts ∧ Nz ts ∧ (∀ t ∈ ts, t.2.2.1.length ≤ 300) ∧ ts.length ≤ 400) := ⟨hv, hz, hl, hn⟩
 have HF : Hid (RdF w (w.heap.size + 1 + 1) ts.length (frm (O ts.length)) 27) := (read_all w (w.heap.size + 1 + 1) hT ts.length).2
 have hmf : ∀ (fn : Fn) (first cap : Array Value) (w : World), (Instr.makeFunc fn first cap).run Tryz.prog w = .ok (.func fn first cap) w := fun _ _ _ _ => rfl
 obtain ⟨nn, hnn⟩ : ∃ nn, ts.length = nn := ⟨_, rfl⟩
 have HNN : Hid (ts.length = nn) := hnn
 have HPR : Hid (prs ts = match frm (O ts.length) 0 ts with
   | .error e => (tz, e.1, cd e.2)
   | .ok (x, ts1) => if (hd ts1).1 = 5 then (x, 0, 0) else (tz, (hd ts1).2.1, 4)) := rfl
 rw [hnn]
 clear hv hz hl hn hT hpos hnn
 go_enter_defers Tryz.func16, Tryz.ntmps16
 go_wp2_with fail
 have HS : Hid (Stt w (w.heap.size + 1 + 1) (((w.alloc (.cells #[.int .i64 0, .int .i64 0, .string ⟨#[]⟩, .int .i64 0, .int .i64 0, .int .i64 0, .bool false, .bool false, .int .i64 0, .int .i64 0, .bool false, .bool false, .slice none 0 0] 29)).alloc (.cells #[.int .i64 0, .int .i64 0] 50)).alloc (.cells #[.slice (some ⟨tb, off, none⟩) nn c, .int .i64 0] 72)) ts 0) := by
   have hv := HV.out
   rw [HNN.out] at hv
   refine ⟨(((Ext.refl w).alloc _).alloc _).alloc _, by omega, by simp, hv.2.1, hv.2.2.1, by decide, by rw [HNN.out]; exact hv.2.2.2, tb, off, c, by rw [HNN.out]; exact hv.1, ?_, ?_, ?_, ?_⟩
   · rw [HNN.out]; simp [go_sem]
   · simp [go_sem]
   · simp [go_sem]
   · simp [go_sem]
 have HB : Hid (BlkX (((w.alloc (.cells #[.int .i64 0, .int .i64 0, .string ⟨#[]⟩, .int .i64 0, .int .i64 0, .int .i64 0, .bool false, .bool false, .int .i64 0, .int .i64 0, .bool false, .bool false, .slice none 0 0] 29)).alloc (.cells #[.int .i64 0, .int .i64 0] 50)).alloc (.cells #[.slice (some ⟨tb, off, none⟩) nn c, .int .i64 0] 72)) w.heap.size tz (.slice none 0 0)) := BlkX.top rfl (((Ext.refl _).alloc _).alloc _)
 have HQ : Hid (Blk2 (((w.alloc (.cells #[.int .i64 0, .int .i64 0, .string ⟨#[]⟩, .int .i64 0, .int .i64 0, .int .i64 0, .bool false, .bool false, .int .i64 0, .int .i64 0, .bool false, .bool false, .slice none 0 0] 29)).alloc (.cells #[.int .i64 0, .int .i64 0] 50)).alloc (.cells #[.slice (some ⟨tb, off, none⟩) nn c, .int .i64 0] 72)) (w.heap.size + 1) (.int .i64 0) (.int .i64 0)) := blk2_top (by simp) ((Ext.refl _).alloc _)
 have HE : Hid (Ext w (((w.alloc (.cells #[.int .i64 0, .int .i64 0, .string ⟨#[]⟩, .int .i64 0, .int .i64 0, .int .i64 0, .bool false, .bool false, .int .i64 0, .int .i64 0, .bool false, .bool false, .slice none 0 0] 29)).alloc (.cells #[.int .i64 0, .int .i64 0] 50)).alloc (.cells #[.slice (some ⟨tb, off, none⟩) nn c, .int .i64 0] 72)) ∧ (((w.alloc (.cells #[.int .i64 0, .int .i64 0, .string ⟨#[]⟩, .int .i64 0, .int .i64 0, .int .i64 0, .bool false, .bool false, .int .i64 0, .int .i64 0, .bool false, .bool false, .slice none 0 0] 29)).alloc (.cells #[.int .i64 0, .int .i64 0] 50)).alloc (.cells #[.slice (some ⟨tb, off, none⟩) nn c, .int .i64 0] 72)).heap.size = w.heap.size + 1 + 1 + 1) := ⟨(((Ext.refl w).alloc _).alloc _).alloc _, by simp⟩
 generalize ((w.alloc (.cells #[.int .i64 0, .int .i64 0, .string ⟨#[]⟩, .int .i64 0, .int .i64 0, .int .i64 0, .bool false, .bool false, .int .i64 0, .int .i64 0, .bool false, .bool false, .slice none 0 0] 29)).alloc (.cells #[.int .i64 0, .int .i64 0] 50)).alloc (.cells #[.slice (some ⟨tb, off, none⟩) nn c, .int .i64 0] 72) = W1 at *
 refine (HF.out W1 ts 0 HS.out (Nat.le_refl _)).mono ?_
 intro e w1 h1
 rcases h1.cases with ⟨f, hr, rfl, E1⟩ | ⟨x, us, pp, ln, cl, hr, rfl, hL, S1, E1⟩
 · have hX : prs ts = (tz, f.1, cd f.2) := by rw [HPR.out, hr]
   have B1 := HB.out.extB E1 (by omega)
   obtain ⟨y0, ⟨y1, y2⟩, y3, y4⟩ := HQ.out
   have q0 := E1.cell (k := w.heap.size + 1) y0 (by omega) 0
   have q1 := E1.cell (k := w.heap.size + 1) y0 (by omega) 1
   refine leaves_cons (f := 26) (args := #[.pointer (some ⟨w.heap.size, 0, none⟩), .pointer (some ⟨w.heap.size + 1, 0, none⟩)]) (by simp) (by simp [go_sem]) ?_
   refine (catchP_fault w.heap.size (w.heap.size + 1) f.1 (cd f.2) _ _ _ _ w w1 (E1.ext HE.out.1 (by omega)) (Nat.le_refl _) (by omega) (by omega) B1 (q0.1.trans y1) (q0.2.trans y3) (q1.1.trans y2) (q1.2.trans y4)).mono ?_
   rintro e u' w2 ⟨rfl, rfl, E2, B2, d0, d1⟩
   obtain ⟨qa, ⟨la0, la1, la2, la3, la4, la5, la6, la7, la8, la9, la10, la11, la12⟩, gg⟩ := B2
   simp [Leaves, settle, results, Tryz.results16, go_sem, d0, d1, la0, la1, la2, la3, la4, la5, la6, la7, la8, la9, la10, la11, la12]
   unfold PReadQ
   rw [hX]
   exact ⟨.slice none 0 0, rfl, .nil, E2⟩
 · have HX : Hid (frm (O ts.length) 0 ts = .ok (x, us)) := hr
   have hsz := HE.out.2
   have HE1 : Hid (Ext w w1 ∧ ExtB (w.heap.size + 1 + 1) W1 w1) := ⟨E1.ext HE.out.1 (by omega), E1⟩
   have HB1 : Hid (BlkX w1 w.heap.size tz (.slice none 0 0)) := HB.out.extB E1 (by omega)
   have HQ1 : Hid (Blk2 w1 (w.heap.size + 1) (.int .i64 0) (.int .i64 0)) := by
     obtain ⟨y0, ⟨y1, y2⟩, y3, y4⟩ := HQ.out
     have q0 := E1.cell (k := w.heap.size + 1) y0 (by omega) 0
     have q1 := E1.cell (k := w.heap.size + 1) y0 (by omega) 1
     exact ⟨Nat.lt_of_lt_of_le y0 E1.size, ⟨q0.1.trans y1, q1.1.trans y2⟩, q0.2.trans y3, q1.2.trans y4⟩
   have HL1 : Hid (IsL w1 (w.heap.size + 1 + 1 + 1 ≤ ·) (.slice pp ln cl) x.l) := hL.mono (fun k hk _ => by rw [hsz] at hk; exact hk)
   have HF2 : Hid (BlkX (putX w1 w.heap.size x (.slice pp ln cl)) w.heap.size x (.slice pp ln cl) ∧ IsL (putX w1 w.heap.size x (.slice pp ln cl)) (w.heap.size + 1 + 1 + 1 ≤ ·) (.slice pp ln cl) x.l ∧ Stt w (w.heap.size + 1 + 1) (putX w1 w.heap.size x (.slice pp ln cl)) us 0 ∧ Ext w (putX w1 w.heap.size x (.slice pp ln cl)) ∧ Blk2 (putX w1 w.heap.size x (.slice pp ln cl)) (w.heap.size + 1) (.int .i64 0) (.int .i64 0)) := by
     obtain ⟨y0, ⟨y1, y2⟩, y3, y4⟩ := HQ1.out
     have hh : (putX w1 w.heap.size x (.slice pp ln cl)).heap[w.heap.size + 1]? = w1.heap[w.heap.size + 1]? := putX_heap _ _ _ _ _ (by omega)
     have k0 : ∀ o, (putX w1 w.heap.size x (.slice pp ln cl)).cell? ⟨w.heap.size + 1, o, none⟩ = w1.cell? ⟨w.heap.size + 1, o, none⟩ := fun o => World.cell?_of_block (a := ⟨w.heap.size + 1, o, none⟩) hh
     have k1 : ∀ o, (putX w1 w.heap.size x (.slice pp ln cl)).frozen? ⟨w.heap.size + 1, o, none⟩ = w1.frozen? ⟨w.heap.size + 1, o, none⟩ := fun o => World.frozen?_of_block (a := ⟨w.heap.size + 1, o, none⟩) hh
     exact ⟨HB1.out.put x _, putX_L HL1.out (fun k hk => by omega), putX_S S1 (by omega) (Nat.le_refl _) _ _, putX_E HE1.out.1 (Nat.le_refl _) _ _, by rw [putX_size]; exact y0, ⟨(k0 0).trans y1, (k0 1).trans y2⟩, (k1 0).trans y3, (k1 1).trans y4⟩
   obtain ⟨qb, ⟨lb0, lb1, lb2, lb3, lb4, lb5, lb6, lb7, lb8, lb9, lb10, lb11, lb12⟩, gb0, gb1, gb2, gb3, gb4, gb5, gb6, gb7, gb8, gb9, gb10, gb11, gb12⟩ := HB1.out
   clear h1 hr hL S1 E1 hsz HB HQ HE
   unfold aggX
   go_upto_region 4 with fail
   rw [show (((((((((((((w1.setCell ⟨w.heap.size, 0, none⟩ (.int .i64 x.k)).setCell ⟨w.heap.size, 1, none⟩ (.int .i64 x.n)).setCell ⟨w.heap.size, 2, none⟩ (.string (bs x.s))).setCell ⟨w.heap.size, 3, none⟩ (.int .i64 x.e)).setCell ⟨w.heap.size, 4, none⟩ (.int .i64 x.r.1)).setCell ⟨w.heap.size, 5, none⟩ (.int .i64 x.r.2.1)).setCell ⟨w.heap.size, 6, none⟩ (.bool x.r.2.2.1)).setCell ⟨w.heap.size, 7, none⟩ (.bool x.r.2.2.2)).setCell ⟨w.heap.size, 8, none⟩ (.int .i64 x.q.1)).setCell ⟨w.heap.size, 9, none⟩ (.int .i64 x.q.2.1)).setCell ⟨w.heap.size, 10, none⟩ (.bool x.q.2.2.1)).setCell ⟨w.heap.size, 11, none⟩ (.bool x.q.2.2.2)).setCell ⟨w.heap.size, 12, none⟩ (.slice pp ln cl)) = putX w1 w.heap.size x (.slice pp ln cl) from rfl]
   generalize putX w1 w.heap.size x (.slice pp ln cl) = W2 at HF2 ⊢
   clear qb lb0 lb1 lb2 lb3 lb4 lb5 lb6 lb7 lb8 lb9 lb10 lb11 lb12 gb0 gb1 gb2 gb3 gb4 gb5 gb6 gb7 gb8 gb9 gb10 gb11 gb12
   obtain ⟨tb', off', cc', b0, z0, b1, z1, t0, t1, t2, t3, t4, hne, hc, hp, hs⟩ := HF2.out.2.2.1.get
   have hp0 : 0 < us.length := hp
   obtain ⟨kk, hkk⟩ : ∃ kk, (hd us).1 = kk := ⟨_, rfl⟩
   have HKK : Hid ((hd us).1 = kk) := hkk
   rw [hkk] at t0
   obtain ⟨n2, hn2⟩ : ∃ n2, us.length = n2 := ⟨_, rfl⟩
   rw [hn2] at b0 hc hp hp0
   clear hkk hn2 t1 t2 t3 t4 z0 b1 z1
   by_cases hk5 : kk = 5
   · have hkb : (kk != 5) = false := by rw [hk5]; rfl
     have hkc : (kk == 5) = true := by rw [hk5]; rfl
     have HX2 : Hid (prs ts = (x, 0, 0)) := by show _ = _; rw [HPR.out, HX.out]; simp only []; rw [if_pos (HKK.out.trans hk5)]
     have HF3 : Hid (BlkX ((((putX W2 w.heap.size x (.slice pp ln cl)).setCell ⟨w.heap.size + 1, 0, none⟩ (.int .i64 0)).setCell ⟨w.heap.size + 1, 1, none⟩ (.int .i64 0))) w.heap.size x (.slice pp ln cl) ∧ IsL ((((putX W2 w.heap.size x (.slice pp ln cl)).setCell ⟨w.heap.size + 1, 0, none⟩ (.int .i64 0)).setCell ⟨w.heap.size + 1, 1, none⟩ (.int .i64 0))) (w.heap.size + 1 + 1 + 1 ≤ ·) (.slice pp ln cl) x.l ∧ Ext w ((((putX W2 w.heap.size x (.slice pp ln cl)).setCell ⟨w.heap.size + 1, 0, none⟩ (.int .i64 0)).setCell ⟨w.heap.size + 1, 1, none⟩ (.int .i64 0))) ∧ ((((putX W2 w.heap.size x (.slice pp ln cl)).setCell ⟨w.heap.size + 1, 0, none⟩ (.int .i64 0)).setCell ⟨w.heap.size + 1, 1, none⟩ (.int .i64 0))).cell? ⟨w.heap.size + 1, 0, none⟩ = some (.int .i64 0) ∧ ((((putX W2 w.heap.size x (.slice pp ln cl)).setCell ⟨w.heap.size + 1, 0, none⟩ (.int .i64 0)).setCell ⟨w.heap.size + 1, 1, none⟩ (.int .i64 0))).cell? ⟨w.heap.size + 1, 1, none⟩ = some (.int .i64 0)) := by
       obtain ⟨u1, u2, u3, u4, y0, ⟨y1, y2⟩, y3, y4⟩ := HF2.out
       have hh : (putX W2 w.heap.size x (.slice pp ln cl)).heap[w.heap.size + 1]? = W2.heap[w.heap.size + 1]? := putX_heap _ _ _ _ _ (by omega)
       have k0 : ∀ o, (putX W2 w.heap.size x (.slice pp ln cl)).cell? ⟨w.heap.size + 1, o, none⟩ = W2.cell? ⟨w.heap.size + 1, o, none⟩ := fun o => World.cell?_of_block (a := ⟨w.heap.size + 1, o, none⟩) hh
       have e0 := World.cell?_setCell_same (putX W2 w.heap.size x (.slice pp ln cl)) ⟨w.heap.size + 1, 0, none⟩ (.int .i64 0) (by rw [k0 0, y1])
       have j1 : ((putX W2 w.heap.size x (.slice pp ln cl)).setCell ⟨w.heap.size + 1, 0, none⟩ (.int .i64 0)).cell? ⟨w.heap.size + 1, 1, none⟩ = some (.int .i64 0) := by rw [World.cell?_setCell_other _ _ _ _ (by simp), k0 1, y2]
       have e1 := World.cell?_setCell_same _ ⟨w.heap.size + 1, 1, none⟩ (.int .i64 0) (by rw [j1])
       refine ⟨Blk13.far1 (Blk13.far1 (u1.put x _) (by omega) _ _) (by omega) _ _, ?_, ((putX_E u4 (Nat.le_refl _) _ _).setCell (by simp) _).setCell (by simp) _, ?_, e1⟩
       · refine (putX_L (g := w.heap.size) (t := x) (lv := .slice pp ln cl) u2 (fun k hk => by have hk2 : w.heap.size + 1 + 1 + 1 ≤ k := hk; omega)).keep (by simp [World.setCell]) (fun k hk _ => ?_) (fun _ h _ => h)
         have hk1 : k ≠ w.heap.size + 1 := by have hk2 : w.heap.size + 1 + 1 + 1 ≤ k := hk; omega
         rw [Below.heap_setCell _ _ _ _ hk1, Below.heap_setCell _ _ _ _ hk1]
       · rw [World.cell?_setCell_other _ _ _ _ (by simp)]; exact e0
     have U1 := HF2.out.1
     obtain ⟨y0, ⟨y1, y2⟩, y3, y4⟩ := HF2.out.2.2.2.2
     obtain ⟨qc, ⟨lc0, lc1, lc2, lc3, lc4, lc5, lc6, lc7, lc8, lc9, lc10, lc11, lc12⟩, gc0, gc1, gc2, gc3, gc4, gc5, gc6, gc7, gc8, gc9, gc10, gc11, gc12⟩ := U1
     clear hk5
     go_wp2_with fail
     rw [show (((((((((((((((W2.setCell ⟨w.heap.size, 0, none⟩ (.int .i64 x.k)).setCell ⟨w.heap.size, 1, none⟩ (.int .i64 x.n)).setCell ⟨w.heap.size, 2, none⟩ (.string (bs x.s))).setCell ⟨w.heap.size, 3, none⟩ (.int .i64 x.e)).setCell ⟨w.heap.size, 4, none⟩ (.int .i64 x.r.1)).setCell ⟨w.heap.size, 5, none⟩ (.int .i64 x.r.2.1)).setCell ⟨w.heap.size, 6, none⟩ (.bool x.r.2.2.1)).setCell ⟨w.heap.size, 7, none⟩ (.bool x.r.2.2.2)).setCell ⟨w.heap.size, 8, none⟩ (.int .i64 x.q.1)).setCell ⟨w.heap.size, 9, none⟩ (.int .i64 x.q.2.1)).setCell ⟨w.heap.size, 10, none⟩ (.bool x.q.2.2.1)).setCell ⟨w.heap.size, 11, none⟩ (.bool x.q.2.2.2)).setCell ⟨w.heap.size, 12, none⟩ (.slice pp ln cl)).setCell ⟨w.heap.size + 1, 0, none⟩ (.int .i64 0)).setCell ⟨w.heap.size + 1, 1, none⟩ (.int .i64 0)) = (((putX W2 w.heap.size x (.slice pp ln cl)).setCell ⟨w.heap.size + 1, 0, none⟩ (.int .i64 0)).setCell ⟨w.heap.size + 1, 1, none⟩ (.int .i64 0)) from rfl]
     generalize (((putX W2 w.heap.size x (.slice pp ln cl)).setCell ⟨w.heap.size + 1, 0, none⟩ (.int .i64 0)).setCell ⟨w.heap.size + 1, 1, none⟩ (.int .i64 0)) = W3 at HF3 ⊢
     clear qc lc0 lc1 lc2 lc3 lc4 lc5 lc6 lc7 lc8 lc9 lc10 lc11 lc12 gc0 gc1 gc2 gc3 gc4 gc5 gc6 gc7 gc8 gc9 gc10 gc11 gc12
     refine leaves_cons (f := 26) (args := #[.pointer (some ⟨w.heap.size, 0, none⟩), .pointer (some ⟨w.heap.size + 1, 0, none⟩)]) (by simp) (by simp [go_sem]) ?_
     refine (catchP_idle ⟨w.heap.size, 0, none⟩ ⟨w.heap.size + 1, 0, none⟩ W3).mono ?_
     rintro e u' w5 ⟨rfl, rfl, rfl⟩
     obtain ⟨⟨qa, ⟨la0, la1, la2, la3, la4, la5, la6, la7, la8, la9, la10, la11, la12⟩, gg⟩, v2, v3, v4, v5⟩ := HF3.out
     simp [Leaves, settle, results, Tryz.results16, go_sem, v4, v5, la0, la1, la2, la3, la4, la5, la6, la7, la8, la9, la10, la11, la12]
     unfold PReadQ
     rw [HX2.out]
     exact ⟨.slice pp ln cl, rfl, v2.mono (fun k hk _ => by omega), v3⟩
   · have hkb : (kk != 5) = true := by simpa using hk5
     have hkc : (kk == 5) = false := by simpa using hk5
     have HX2 : Hid (prs ts = (tz, (hd us).2.1, 4)) := by show _ = _; rw [HPR.out, HX.out]; simp only []; rw [if_neg (by rw [HKK.out]; exact hk5)]
     have c2 := here_any w (w.heap.size + 1 + 1) 0 us 4 W2 HF2.out.2.2.1
     clear hk5
     go_wp2_with fail
     refine c2.mono ?_
     rintro e w3 ⟨rfl, E3⟩
     clear c2
     have HE3 : Hid (Ext W2 w3) := E3
     clear E3
     go_wp2_with fail
     refine leaves_cons (f := 26) (args := #[.pointer (some ⟨w.heap.size, 0, none⟩), .pointer (some ⟨w.heap.size + 1, 0, none⟩)]) (by simp) (by simp [go_sem]) ?_
     obtain ⟨y0, ⟨y1, y2⟩, y3, y4⟩ := Blk2.ext HF2.out.2.2.2.2 HE3.out
     refine (catchP_fault w.heap.size (w.heap.size + 1) (hd us).2.1 4 _ _ _ _ w w3 (HF2.out.2.2.2.1.trans HE3.out) (Nat.le_refl _) (by omega) (by omega) (HF2.out.1.ext HE3.out) y1 y3 y2 y4).mono ?_
     rintro e u' w4 ⟨rfl, rfl, E2, B2, d0, d1⟩
     obtain ⟨qa, ⟨la0, la1, la2, la3, la4, la5, la6, la7, la8, la9, la10, la11, la12⟩, gg⟩ := B2
     simp [Leaves, settle, results, Tryz.results16, go_sem, d0, d1, la0, la1, la2, la3, la4, la5, la6, la7, la8, la9, la10, la11, la12]
     unfold PReadQ
     rw [HX2.out]
     exact ⟨.slice none 0 0, rfl, .nil, E2⟩

open Go.RowKit

/-- Nothing, or what begins with a blank. -/
def Bl (r : List UInt8) : Prop := r = [] ∨ ∃ t, r = 32 :: t
def bl (n : Nat) : List UInt8 := List.replicate n 32
theorem Bl.head {r : List UInt8} (h : Bl r) (c : UInt8) (hc : r[0]? = some c) : c = 32 := by
 rcases h with rfl | ⟨t, rfl⟩
 · cases hc
 · simpa using hc.symm
theorem txt_cne (c : UInt8) (r : List UInt8) (h : c ≠ 34) : txt (c :: r) = (txt r).map (fun x => (c :: x.1, x.2 + 1)) := by
 cases r with
 | nil => simp [txt, h]
 | cons d r => rw [txt, if_neg h]
theorem txt_stop (r : List UInt8) (h : ∀ c, r[0]? = some c → c ≠ 34) : txt (34 :: r) = some ([], 1) := by
 cases r with
 | nil => simp [txt]
 | cons d r => rw [txt, if_pos rfl, if_neg (h d rfl)]
theorem find_same {α : Type} {q q' : α → Bool} : ∀ (l : List α), (∀ x ∈ l, q x = q' x) → l.find? q = l.find? q'
 | [], _ => rfl
 | x :: l, h => by
   rw [List.find?_cons, List.find?_cons, h x (by simp), find_same l (fun y hy => h y (by simp [hy]))]
/-! ### The words of a text, and of what comes behind it -/
theorem map_ok {e a b : Type} {f : a → b} {r : Except e a} {y : b} (h : r.map f = .ok y) : ∃ x, r = .ok x ∧ f x = y := by
 cases r with
 | error e => cases h
 | ok x => cases h; exact ⟨x, rfl, rfl⟩
theorem map_err {e a b : Type} {f : a → b} {r : Except e a} {y : e} (h : r.map f = .error y) : r = .error y := by
 cases r with
 | error e => cases h; rfl
 | ok x => cases h
/-- Words that are moved. -/
def mvT (a : Nat) (t : Tk) : Tk := (t.1, t.2.1 + (a : Int), t.2.2.1, t.2.2.2.1, t.2.2.2.2)
/-! ### Where words stand -/
def Gd (l : List UInt8) (a : Nat) (t : Tk) : Prop := t.2.1 = (a : Int) ∧ a ≤ l.length ∧ ((t.1 = 2 ∨ t.1 = 3) → a + t.2.2.1.length ≤ l.length ∧ (l.drop a).take t.2.2.1.length = t.2.2.1) ∧ (∀ h : a < l.length, l[a] ≠ 32)
def Ord7 (l : List UInt8) : Nat → List Tk → Prop
 | _, [] => True
 | p, t :: r => ∃ a, p ≤ a ∧ Gd l a t ∧ Ord7 l (a + 1) r
theorem Ord7.mono {l : List UInt8} {p q : Nat} {ts : List Tk} (h : Ord7 l p ts) (hq : q ≤ p) : Ord7 l q ts := by
 cases ts with
 | nil => trivial
 | cons t r => obtain ⟨a, h1, h2⟩ := h; exact ⟨a, by omega, h2⟩
theorem Ord7.at {l : List UInt8} : ∀ (ts : List Tk) (p i : Nat) (t : Tk), Ord7 l p ts → ts[i]? = some t → ∃ a, p ≤ a ∧ Gd l a t ∧ Ord7 l (a + 1) (ts.drop (i + 1))
 | [], _, _, _, _, h => by simp at h
 | s :: r, p, 0, t, h, hi => by
   simp at hi
   subst hi
   exact h
 | s :: r, p, i + 1, t, h, hi => by
   obtain ⟨a, h1, h2, h3⟩ := h
   obtain ⟨b, h4, h5⟩ := Ord7.at r (a + 1) i t h3 (by simpa using hi)
   exact ⟨b, by omega, h5⟩
theorem Ord7.next {l : List UInt8} {ts : List Tk} {p i : Nat} {t u : Tk} (h : Ord7 l p ts) (h1 : ts[i]? = some t) (h2 : ts[i + 1]? = some u) : t.2.1 < u.2.1 := by
 obtain ⟨a, _, g1, g2⟩ := h.at ts p i t h1
 obtain ⟨b, k1, k2, _⟩ := g2.at _ _ 0 u (by rw [List.getElem?_drop]; exact h2)
 rw [g1.1, k2.1]; omega
/-- As many words as bytes, and one. -/
theorem W_count (n : Nat) : ∀ (l : List UInt8) (p : Nat) (ts : List Tk), l.length ≤ n → W p l = .ok ts → ts.length ≤ l.length + 1 ∧ 1 ≤ ts.length := by
 induction n with
 | zero =>
   intro l p ts hl h
   have : l = [] := List.eq_nil_of_length_eq_zero (by omega)
   subst this
   rw [W_nil] at h; cases h; simp
 | succ n ih =>
   intro l p ts hl h
   cases l with
   | nil => rw [W_nil] at h; cases h; simp
   | cons c t =>
     by_cases hc : c = 32
     · subst hc
       rw [W_blank] at h
       have := ih t (p + 1) ts (by simpa using hl) h
       simp; omega
     · rw [W_cons p c t hc] at h
       cases hx : nxt (c :: t) with
       | error e => rw [hx] at h; cases h
       | ok x =>
         rw [hx] at h
         simp only [] at h
         obtain ⟨us, hu, rfl⟩ := map_ok h
         have hm := nxt_pos hx
         simp only [List.length_cons] at hm
         have := ih ((c :: t).drop x.2.2.2.2) (p + x.2.2.2.2) us (by simp at hl ⊢; omega) hu
         simp at this ⊢; omega
theorem nxt_code {l : List UInt8} {c : Int} (h : nxt l = .error c) : c = 4 ∨ c = 2 := by
 cases l with
 | nil => cases h; exact .inl rfl
 | cons d r =>
   rw [nxt_cons] at h
   split at h
   · unfold numR at h
     split at h
     · cases h; exact .inl rfl
     · split at h
       · cases h; exact .inr rfl
       · cases h
   · split at h
     · unfold txtR at h
       split at h
       · cases h; exact .inl rfl
       · cases h
     · split at h
       · cases h
       · split at h
         · unfold errR at h
           split at h
           · cases h; exact .inl rfl
           · cases h
         · unfold sgR at h
           split at h
           · cases h; exact .inl rfl
           · cases h
theorem W_code (n : Nat) : ∀ (l : List UInt8) (p : Nat) (y : Nat × Int), l.length ≤ n → W p l = .error y → y.2 = 4 ∨ y.2 = 2 := by
 induction n with
 | zero =>
   intro l p y hl h
   have : l = [] := List.eq_nil_of_length_eq_zero (by omega)
   subst this
   rw [W_nil] at h; cases h
 | succ n ih =>
   intro l p y hl h
   cases l with
   | nil => rw [W_nil] at h; cases h
   | cons c t =>
     by_cases hc : c = 32
     · subst hc
       rw [W_blank] at h
       exact ih t (p + 1) y (by simpa using hl) h
     · rw [W_cons p c t hc] at h
       cases hx : nxt (c :: t) with
       | error e => rw [hx] at h; cases h; exact nxt_code hx
       | ok x =>
         rw [hx] at h
         have hm := nxt_pos hx
         simp only [List.length_cons] at hm
         exact ih _ _ y (by simp at hl ⊢; omega) (map_err h)
/-- What is answered: the words, or none, and why. -/
theorem lexR_cases (l : List UInt8) : (∃ ts, l.length ≤ 300 ∧ W 0 l = .ok ts ∧ lexR l = (ts, 0, 0)) ∨ (∃ p c, lexR l = ([], p, c) ∧ (c = 2 ∨ c = 4) ∧ (300 < l.length ∧ p = 0 ∧ c = 2 ∨ l.length ≤ 300 ∧ ∃ q : Nat, p = (q : Int) ∧ W 0 l = .error (q, c))) := by
 by_cases h : 300 < l.length
 · exact .inr ⟨0, 2, by unfold lexR; rw [if_pos h], .inl rfl, .inl ⟨h, rfl, rfl⟩⟩
 · cases hw : W 0 l with
   | ok ts => exact .inl ⟨ts, by omega, rfl, by unfold lexR; rw [if_neg h, hw]⟩
   | error y => exact .inr ⟨(y.1 : Int), y.2, by unfold lexR; rw [if_neg h, hw], (W_code l.length l 0 y (Nat.le_refl _) hw).symm, .inr ⟨by omega, y.1, rfl, rfl⟩⟩

open Go.RowKit

/-- Nothing, or what begins with a blank, a closing bracket, a comma. -/
def Sp (r : List UInt8) : Prop := r = [] ∨ ∃ c t, r = c :: t ∧ (c = 32 ∨ c = 41 ∨ c = 44)
theorem Sp.head {r : List UInt8} (h : Sp r) (c : UInt8) (hc : r[0]? = some c) : c = 32 ∨ c = 41 ∨ c = 44 := by
 rcases h with rfl | ⟨d, t, rfl, h⟩
 · cases hc
 · simp at hc; subst hc; exact h
theorem run_sp (p : UInt8 → Bool) (hp : p 32 = false ∧ p 41 = false ∧ p 44 = false) (l r : List UInt8) (hr : Sp r) : run p (l ++ r) = run p l := by
 induction l with
 | nil =>
   rcases hr with rfl | ⟨c, t, rfl, h⟩
   · rfl
   · rw [List.nil_append, run_cons, run_nil, if_neg]
     rcases h with rfl | rfl | rfl <;> simp [hp.1, hp.2.1, hp.2.2]
 | cons c l ih => rw [List.cons_append, run_cons, run_cons, ih]
theorem numE_sp (l r : List UInt8) (hr : Sp r) : numE (l ++ r) = numE l := by
 unfold numE
 rw [run_sp dgB (by decide) l r hr]
 have hn := runL_le dgB l
 by_cases h : run dgB l < l.length
 · rw [List.getElem?_append_left h, List.drop_append_of_le_length (by omega), run_sp dgB (by decide) _ r hr]
 · have e : run dgB l = l.length := by omega
   rw [e]
   have h1 : (l ++ r)[l.length]? = r[0]? := by rw [List.getElem?_append_right (Nat.le_refl _), Nat.sub_self]
   rw [h1, if_neg, if_neg]
   · rintro ⟨h2, _⟩; rw [List.getElem?_eq_none (Nat.le_refl _)] at h2; cases h2
   · rintro ⟨h2, _⟩; exact absurd (hr.head _ h2) (by decide)
theorem numR_sp (l r : List UInt8) (hr : Sp r) : numR (l ++ r) = numR l := by
 unfold numR
 rw [numE_sp l r hr, List.take_append_of_le_length (numE_le l)]
theorem txt_sp (r : List UInt8) (hr : Sp r) : ∀ (l : List UInt8) (x : List UInt8 × Nat), txt l = some x → txt (l ++ r) = some x
 | [], x, h => by simp [txt] at h
 | [c], x, h => by
   unfold txt at h
   split at h
   · rename_i hc
     subst hc
     cases h
     exact txt_stop r (fun c hc => by rcases hr.head c hc with rfl | rfl | rfl <;> decide)
   · cases h
 | c :: d :: l, x, h => by
   unfold txt at h
   show txt (c :: d :: (l ++ r)) = some x
   rw [txt]
   split at h
   · rename_i hc
     rw [if_pos hc]
     split at h
     · rename_i hd
       rw [if_pos hd]
       rw [Option.map_eq_some_iff] at h
       obtain ⟨y, hy, rfl⟩ := h
       rw [txt_sp r hr l y hy]; rfl
     · rename_i hd
       rw [if_neg hd]; exact h
   · rename_i hc
     rw [if_neg hc]
     rw [Option.map_eq_some_iff] at h
     obtain ⟨y, hy, rfl⟩ := h
     have := txt_sp r hr (d :: l) y hy
     rw [List.cons_append] at this
     rw [this]; rfl
theorem wdR_sp (l r : List UInt8) (hr : Sp r) : wdR (l ++ r) = wdR l := by
 unfold wdR
 rw [run_sp inW (by decide) l r hr, List.take_append_of_le_length (runL_le inW l)]
def spB (c : UInt8) : Bool := c != 32 && c != 41 && c != 44
theorem pre_sp (p : List UInt8) : ∀ (l r : List UInt8), p.all spB = true → Sp r → p.isPrefixOf (l ++ r) = p.isPrefixOf l := by
 induction p with
 | nil => intro l r _ _; simp
 | cons a p ih =>
   intro l r hp hr
   rw [List.all_cons, Bool.and_eq_true] at hp
   cases l with
   | nil =>
     rcases hr with rfl | ⟨c, t, rfl, h⟩
     · rfl
     · have : (a == c) = false := by
         have := hp.1
         unfold spB at this
         simp at this
         rcases h with rfl | rfl | rfl <;> simp [this]
       simp [List.isPrefixOf, this]
   | cons b l => rw [List.cons_append, List.isPrefixOf_cons_cons, List.isPrefixOf_cons_cons, ih l r hp.2 hr]
theorem errR_sp (l r : List UInt8) (hr : Sp r) : errR (l ++ r) = errR l := by
 have e : errT (l ++ r) = errT l := by
   unfold errT
   refine find_same errsL (fun x hx => pre_sp _ _ _ ?_ hr)
   have : errsL.all (fun x => x.2.all spB) = true := by decide
   exact List.all_eq_true.1 this x hx
 unfold errR; rw [e]
theorem sgR_sp (c : UInt8) (l r : List UInt8) (hr : Sp r) : sgR (c :: l ++ r) = sgR (c :: l) := by
 have e : sgT (c :: l ++ r) = sgT (c :: l) := by
   unfold sgT
   refine find_same sgsL (fun x hx => ?_)
   have : sgsL.all (fun x => x.tail.all spB) = true := by decide
   have h1 := List.all_eq_true.1 this x hx
   cases x with
   | nil => simp
   | cons a p => rw [List.cons_append, List.isPrefixOf_cons_cons, List.isPrefixOf_cons_cons, pre_sp p l r h1 hr]
 unfold sgR; rw [e]
theorem nxt_sp {l r : List UInt8} {x : Wd} (hr : Sp r) (h : nxt l = .ok x) : nxt (l ++ r) = .ok x := by
 cases l with
 | nil => cases h
 | cons c l =>
   rw [nxt_cons] at h
   have e : c :: l ++ r = c :: (l ++ r) := rfl
   rw [e, nxt_cons, ← e]
   rw [numR_sp _ r hr, wdR_sp _ r hr, errR_sp _ r hr, sgR_sp _ _ r hr]
   split at h
   · rename_i h1; rw [if_pos h1]; exact h
   · rename_i h1
     rw [if_neg h1]
     split at h
     · rename_i h2
       rw [if_pos h2]
       unfold txtR at h ⊢
       rw [e, List.tail_cons]
       rw [List.tail_cons] at h
       split at h
       · cases h
       · rename_i y hy
         rw [txt_sp r hr l y hy]; exact h
     · rename_i h2; rw [if_neg h2]; exact h
theorem nxt_kind {l : List UInt8} {x : Wd} (h : nxt l = .ok x) : x.1 ≠ 5 := by
 cases l with
 | nil => cases h
 | cons c l =>
   rw [nxt_cons] at h
   split at h
   · unfold numR at h
     split at h
     · cases h
     · split at h
       · cases h
       · cases h; show (0 : Int) ≠ 5; decide
   · split at h
     · unfold txtR at h
       split at h
       · cases h
       · cases h; show (1 : Int) ≠ 5; decide
     · split at h
       · unfold wdR at h
         cases h; show (2 : Int) ≠ 5; decide
       · split at h
         · unfold errR at h
           split at h
           · cases h
           · cases h; show (4 : Int) ≠ 5; decide
         · unfold sgR at h
           split at h
           · cases h
           · cases h; show (3 : Int) ≠ 5; decide
/-- The words of a text, and of what comes behind it. -/
theorem W_sp (r : List UInt8) (hr : Sp r) (n : Nat) : ∀ (l : List UInt8) (p : Nat) (ts : List Tk), l.length ≤ n → W p l = .ok ts →
   ts = ts.dropLast ++ [endT (p + l.length)] ∧ (∀ t ∈ ts.dropLast, t.1 ≠ 5) ∧ W p (l ++ r) = (W (p + l.length) r).map (fun us => ts.dropLast ++ us) := by
 induction n with
 | zero =>
   intro l p ts hl h
   have : l = [] := List.eq_nil_of_length_eq_zero (by omega)
   subst this
   rw [W_nil] at h
   cases h
   refine ⟨rfl, by simp, ?_⟩
   show W p r = _
   cases W p r <;> rfl
 | succ n ih =>
   intro l p ts hl h
   cases l with
   | nil =>
     rw [W_nil] at h
     cases h
     refine ⟨rfl, by simp, ?_⟩
     show W p r = _
     cases W p r <;> rfl
   | cons c t =>
     by_cases hc : c = 32
     · subst hc
       rw [W_blank] at h
       have := ih t (p + 1) ts (by simpa using hl) h
       have e : p + 1 + t.length = p + (t.length + 1) := by omega
       rw [e] at this
       refine ⟨this.1, this.2.1, ?_⟩
       rw [List.cons_append, W_blank]
       exact this.2.2
     · rw [W_cons p c t hc] at h
       cases hx : nxt (c :: t) with
       | error e => rw [hx] at h; cases h
       | ok x =>
         rw [hx] at h
         simp only [] at h
         obtain ⟨us, hu, rfl⟩ := map_ok h
         have hm := nxt_pos hx
         simp only [List.length_cons] at hm
         have i1 := ih ((c :: t).drop x.2.2.2.2) (p + x.2.2.2.2) us (by simp at hl ⊢; omega) hu
         have e : p + x.2.2.2.2 + ((c :: t).drop x.2.2.2.2).length = p + (c :: t).length := by simp; omega
         rw [e] at i1
         have hne : us ≠ [] := by intro h0; rw [h0] at i1; simp at i1
         have hd : (tkOf x p :: us).dropLast = tkOf x p :: us.dropLast := List.dropLast_cons_of_ne_nil hne
         refine ⟨?_, ?_, ?_⟩
         · rw [hd, List.cons_append, ← i1.1]
         · rw [hd]
           intro t ht
           rcases List.mem_cons.1 ht with rfl | ht
           · exact nxt_kind hx
           · exact i1.2.1 t ht
         · have e2 : c :: t ++ r = c :: (t ++ r) := rfl
           rw [e2, W_cons p c (t ++ r) hc, ← e2, nxt_sp hr hx]
           simp only []
           rw [List.drop_append_of_le_length (by simp; omega), i1.2.2, hd]
           cases W (p + (c :: t).length) r <;> rfl
/-- What is read of words that are moved, and end otherwise. -/
theorem rt_of (tl : List Tk) (a : Nat) : ∀ (us : List Tk) (e : Tk), (∀ t ∈ us, t.1 ≠ 5) → e.1 = 5 → Rt tl (us ++ [e]) (us.map (mvT a) ++ tl)
 | [], e, _, h => .nil e h
 | t :: us, e, hu, h => .cons t (mvT a t) _ _ (hu t (by simp)) rfl rfl (rt_of tl a us e (fun x hx => hu x (by simp [hx])) h)
theorem W_rt {l : List UInt8} {ts : List Tk} (tl : List Tk) (a : Nat) (h : W 0 l = .ok ts) : Rt tl ts (ts.dropLast.map (mvT a) ++ tl) := by
 obtain ⟨h1, h2, _⟩ := W_sp [] (.inl rfl) l.length l 0 ts (Nat.le_refl _) h
 have := rt_of tl a ts.dropLast (endT (0 + l.length)) h2 rfl
 rwa [← h1] at this
theorem W_nz {l : List UInt8} {ts : List Tk} (h : W 0 l = .ok ts) : Nz ts := (W_rt [] 0 h).nz
theorem W_at_one {c : UInt8} {r : List UInt8} {x : Wd} (p : Nat) (hc : c ≠ 32) (h : nxt (c :: r) = .ok x) : W p (c :: r) = (W (p + x.2.2.2.2) ((c :: r).drop x.2.2.2.2)).map (fun ts => tkOf x p :: ts) := by
 rw [W_cons p c r hc, h]
theorem nxt_close (r : List UInt8) : nxt (41 :: r) = .ok (3, [41], 0, 0, 1) := by
 rw [nxt_cons, if_neg (by decide), if_neg (by decide), if_neg (by decide), if_neg (by decide)]
 simp [sgR, sgT, sgsL, List.isPrefixOf]
theorem nxt_comma (r : List UInt8) : nxt (44 :: r) = .ok (3, [44], 0, 0, 1) := by
 rw [nxt_cons, if_neg (by decide), if_neg (by decide), if_neg (by decide), if_neg (by decide)]
 simp [sgR, sgT, sgsL, List.isPrefixOf]
theorem nxt_open (r : List UInt8) : nxt (40 :: r) = .ok (3, [40], 0, 0, 1) := by
 rw [nxt_cons, if_neg (by decide), if_neg (by decide), if_neg (by decide), if_neg (by decide)]
 simp [sgR, sgT, sgsL, List.isPrefixOf]
end Go.Proofs.YtcggiljlilbdfaaGreatDoor
