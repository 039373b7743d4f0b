/-
 FuncsErrors is proved: for every three values the call returns true and the arguments read as they did. Its condition: the listed tables (the errors, the powers of ten) lie as the program text lays them (the card ties them).
-/
import Derived.Test.YtalejeknigbhjaaGreatDoorX22
import Derived.Test.YtalejeknigbhjaaGreatDoorX23
import Derived.Test.YtalejeknigbhjaaGreatDoorCards
import Derived.Test.YtalejeknigbhjaaGreatDoorTie
import Derived.ChangeMaps5
import Derived.Lib.SmallJoins
namespace Go.Proofs.YtalejeknigbhjaaGreatDoor.funcsErrors
open Go.ChangeShapes Go.WideShapes Go.ChangeAt Go.RowKit
open Go.ChangeMaps (open_string shut_string)
open Go.Joins
set_option maxHeartbeats 1000000

theorem ok_of (k n : Int) (s : ByteArray) (e : Int) (hn : I64 n) : (Rw.v ⟨k, n, s, e⟩).ok := nm_ok k n s e hn
theorem if_err (a b c : Rw) (h : (a.v).k = 4) (ha : (a.v).ok) : fnV [73, 70] [bgR a, bgR b, bgR c] = a.v := by
 have s0 : sg [bgR a, bgR b, bgR c] 0 = a.v := rfl
 cases hv : a.v with
 | err e =>
   rw [hv] at s0 ha
   rw [fnV_ok rfl]
   show ansV (xIf [bgR a, bgR b, bgR c]) = _
   have : xIf [bgR a, bgR b, bgR c] = .error e := by unfold xIf; rw [s0]; rfl
   rw [this]
   exact mkErr_is ha
 | blank => rw [hv] at h; cases h
 | tf b => rw [hv] at h; cases h
 | num n => rw [hv] at h; cases h
 | text s => rw [hv] at h; cases h
theorem iferr_of (a b : Rw) (ha : (a.v).ok) (hb : (b.v).ok) : fnV [73, 70, 69, 82, 82, 79, 82] [bgR a, bgR b] = if (a.v).k = 4 then b.v else a.v := by
 rw [fnV_ok rfl]
 show ansV (xIfErr [bgR a, bgR b]) = _
 have s0 : sg [bgR a, bgR b] 0 = a.v := rfl
 have s1 : sg [bgR a, bgR b] 1 = b.v := rfl
 unfold xIfErr
 rw [s0, s1]
 split
 · exact (nm_of _ hb).1
 · exact (nm_of _ ha).1
theorem iserr_of (a : Rw) : fnV [73, 83, 69, 82, 82, 79, 82] [bgR a] = .tf (a.v.k == 4) := by
 rw [fnV_ok rfl]
 show ansV (xIsErr [bgR a]) = _
 have s0 : sg [bgR a] 0 = a.v := rfl
 unfold xIsErr
 rw [s0]
 exact (nm_of (.tf (a.v.k == 4)) trivial).1
theorem call_r {l : List Bg} {rs : List Rw} (hl : l = rs.map bgR) (s : ByteArray) (hi : ∀ r ∈ rs, I64 r.n) (hz : rs.length ≤ 1000) {w0 : World} (hN : Nm w0) (hT : Tab w0) (V : World) (g n : Nat) (E : Ext w0 V) (h : RdB V.heap.size V (.slice (some ⟨g, 0, none⟩) n n) l) :
   Calls Tryz.prog 10 #[.string s, .slice (some ⟨g, 0, none⟩) n n] V fun e w' => e = .returned (.agg #[.int .i64 (fnV s.data.toList l).k, .int .i64 (fnV s.data.toList l).n, .string (fnV s.data.toList l).s, .int .i64 (fnV s.data.toList l).e]) ∧ Ext V w' := by
 subst hl
 have k := xcall_any s _ _ n n V ⟨fit_ones h hi hz, hN.ext E, hT.ext E⟩
 rwa [dat_eq] at k
set_option maxRecDepth 100000 in
theorem walk (xak xan : Int) (xas : ByteArray) (xae xbk xbn : Int) (xbs : ByteArray) (xbe xck xcn : Int) (xcs : ByteArray) (xce : Int) (w : World) (_ : (Lit.int .i64 xak).wf = true) (q1 : (Lit.int .i64 xan).wf = true) (_ : xas.size ≤ maxLen) (_ : (Lit.int .i64 xae).wf = true) (_ : (Lit.int .i64 xbk).wf = true) (q2 : (Lit.int .i64 xbn).wf = true) (_ : xbs.size ≤ maxLen) (_ : (Lit.int .i64 xbe).wf = true) (_ : (Lit.int .i64 xck).wf = true) (q3 : (Lit.int .i64 xcn).wf = true) (_ : xcs.size ≤ maxLen) (_ : (Lit.int .i64 xce).wf = true) (hN : Nm w) (hT : Tab w) :
   Calls Tryz.prog 4 #[.agg #[.int .i64 xak, .int .i64 xan, .string xas, .int .i64 xae], .agg #[.int .i64 xbk, .int .i64 xbn, .string xbs, .int .i64 xbe], .agg #[.int .i64 xck, .int .i64 xcn, .string xcs, .int .i64 xce]] w fun e w' => e = .returned (.bool true) ∧ Ext w w' := by
 have qE := eq_val
 have qG := gd_val
 have ia : I64 xan := by have := q1; simp [Lit.wf] at this; unfold I64; exact this
 have ib : I64 xbn := by have := q2; simp [Lit.wf] at this; unfold I64; exact this
 have ic : I64 xcn := by have := q3; simp [Lit.wf] at this; unfold I64; exact this
 have oa := ok_of xak xan xas xae ia
 have ob := ok_of xbk xbn xbs xbe ib
 have cV := fun W (e : Ext w W) => lives14_any W (hN.ext e) (hT.ext e)
 have cA : Hid (∀ V, Calls Tryz.prog 14 #[.agg #[.int .i64 xak, .int .i64 xan, .string xas, .int .i64 xae]] V fun e w' => e = .returned ((Rw.v ⟨xak, xan, xas, xae⟩).dat) ∧ Ext V w') := fun V => rnormal_any xak xan xas xae V
 have cB : Hid (∀ V, Calls Tryz.prog 14 #[.agg #[.int .i64 xbk, .int .i64 xbn, .string xbs, .int .i64 xbe]] V fun e w' => e = .returned ((Rw.v ⟨xbk, xbn, xbs, xbe⟩).dat) ∧ Ext V w') := fun V => rnormal_any xbk xbn xbs xbe V
 have cI : Hid (∀ V g, Ext w V → RdB V.heap.size V (.slice (some ⟨g, 0, none⟩) 3 3) [bgR ⟨xak, xan, xas, xae⟩, bgR ⟨xbk, xbn, xbs, xbe⟩, bgR ⟨xck, xcn, xcs, xce⟩] → Calls Tryz.prog 10 #[.string ⟨#[73, 70]⟩, .slice (some ⟨g, 0, none⟩) 3 3] V fun e w' => e = .returned (.agg #[.int .i64 (fnV [73, 70] [bgR ⟨xak, xan, xas, xae⟩, bgR ⟨xbk, xbn, xbs, xbe⟩, bgR ⟨xck, xcn, xcs, xce⟩]).k, .int .i64 (fnV [73, 70] [bgR ⟨xak, xan, xas, xae⟩, bgR ⟨xbk, xbn, xbs, xbe⟩, bgR ⟨xck, xcn, xcs, xce⟩]).n, .string (fnV [73, 70] [bgR ⟨xak, xan, xas, xae⟩, bgR ⟨xbk, xbn, xbs, xbe⟩, bgR ⟨xck, xcn, xcs, xce⟩]).s, .int .i64 (fnV [73, 70] [bgR ⟨xak, xan, xas, xae⟩, bgR ⟨xbk, xbn, xbs, xbe⟩, bgR ⟨xck, xcn, xcs, xce⟩]).e]) ∧ Ext V w') := fun V g E h => call_r (rs := [⟨xak, xan, xas, xae⟩, ⟨xbk, xbn, xbs, xbe⟩, ⟨xck, xcn, xcs, xce⟩]) rfl ⟨#[73, 70]⟩ (by intro r hr; simp at hr; rcases hr with rfl | rfl | rfl; exact ia; exact ib; exact ic) (by simp) hN hT V g 3 E h
 have cJ : Hid (∀ V g, Ext w V → RdB V.heap.size V (.slice (some ⟨g, 0, none⟩) 2 2) [bgR ⟨xak, xan, xas, xae⟩, bgR ⟨xbk, xbn, xbs, xbe⟩] → Calls Tryz.prog 10 #[.string ⟨#[73, 70, 69, 82, 82, 79, 82]⟩, .slice (some ⟨g, 0, none⟩) 2 2] V fun e w' => e = .returned (.agg #[.int .i64 (fnV [73, 70, 69, 82, 82, 79, 82] [bgR ⟨xak, xan, xas, xae⟩, bgR ⟨xbk, xbn, xbs, xbe⟩]).k, .int .i64 (fnV [73, 70, 69, 82, 82, 79, 82] [bgR ⟨xak, xan, xas, xae⟩, bgR ⟨xbk, xbn, xbs, xbe⟩]).n, .string (fnV [73, 70, 69, 82, 82, 79, 82] [bgR ⟨xak, xan, xas, xae⟩, bgR ⟨xbk, xbn, xbs, xbe⟩]).s, .int .i64 (fnV [73, 70, 69, 82, 82, 79, 82] [bgR ⟨xak, xan, xas, xae⟩, bgR ⟨xbk, xbn, xbs, xbe⟩]).e]) ∧ Ext V w') := fun V g E h => call_r (rs := [⟨xak, xan, xas, xae⟩, ⟨xbk, xbn, xbs, xbe⟩]) rfl ⟨#[73, 70, 69, 82, 82, 79, 82]⟩ (by intro r hr; simp at hr; rcases hr with rfl | rfl; exact ia; exact ib) (by simp) hN hT V g 2 E h
 have cS := fun (W : World) (g0 : Nat) B0 E => call_1 ⟨#[73, 83, 69, 82, 82, 79, 82]⟩ ⟨xak, xan, xas, xae⟩ (by intro r hr; simp at hr; subst hr; exact ia) hN hT (W := W) (g0 := g0) B0 E
 rw [show (⟨#[73, 83, 69, 82, 82, 79, 82]⟩ : ByteArray).data.toList = [73, 83, 69, 82, 82, 79, 82] from rfl, iserr_of] at cS
 have HV : Hid ((Rw.v ⟨xak, xan, xas, xae⟩).k = 4 → fnV [73, 70] [bgR ⟨xak, xan, xas, xae⟩, bgR ⟨xbk, xbn, xbs, xbe⟩, bgR ⟨xck, xcn, xcs, xce⟩] = Rw.v ⟨xak, xan, xas, xae⟩) := fun h => if_err ⟨xak, xan, xas, xae⟩ ⟨xbk, xbn, xbs, xbe⟩ ⟨xck, xcn, xcs, xce⟩ h oa
 have HW : Hid (fnV [73, 70, 69, 82, 82, 79, 82] [bgR ⟨xak, xan, xas, xae⟩, bgR ⟨xbk, xbn, xbs, xbe⟩] = if (Rw.v ⟨xak, xan, xas, xae⟩).k = 4 then Rw.v ⟨xbk, xbn, xbs, xbe⟩ else Rw.v ⟨xak, xan, xas, xae⟩) := iferr_of ⟨xak, xan, xas, xae⟩ ⟨xbk, xbn, xbs, xbe⟩ oa ob
 generalize fnV [73, 70] [bgR ⟨xak, xan, xas, xae⟩, bgR ⟨xbk, xbn, xbs, xbe⟩, bgR ⟨xck, xcn, xcs, xce⟩] = vv at *
 generalize fnV [73, 70, 69, 82, 82, 79, 82] [bgR ⟨xak, xan, xas, xae⟩, bgR ⟨xbk, xbn, xbs, xbe⟩] = ww at *
 replace cA : Hid (∀ V, Calls Tryz.prog 14 #[.agg #[.int .i64 xak, .int .i64 xan, .string xas, .int .i64 xae]] V fun e w' => e = .returned (.agg #[.int .i64 (Rw.v ⟨xak, xan, xas, xae⟩).k, .int .i64 (Rw.v ⟨xak, xan, xas, xae⟩).n, .string (Rw.v ⟨xak, xan, xas, xae⟩).s, .int .i64 (Rw.v ⟨xak, xan, xas, xae⟩).e]) ∧ Ext V w') := fun V => by have := cA.out V; rwa [dat_eq] at this
 replace cB : Hid (∀ V, Calls Tryz.prog 14 #[.agg #[.int .i64 xbk, .int .i64 xbn, .string xbs, .int .i64 xbe]] V fun e w' => e = .returned (.agg #[.int .i64 (Rw.v ⟨xbk, xbn, xbs, xbe⟩).k, .int .i64 (Rw.v ⟨xbk, xbn, xbs, xbe⟩).n, .string (Rw.v ⟨xbk, xbn, xbs, xbe⟩).s, .int .i64 (Rw.v ⟨xbk, xbn, xbs, xbe⟩).e]) ∧ Ext V w') := fun V => by have := cB.out V; rwa [dat_eq] at this
 generalize Rw.v ⟨xak, xan, xas, xae⟩ = xv at *
 generalize Rw.v ⟨xbk, xbn, xbs, xbe⟩ = yv at *
 clear q1 q2 q3 ia ib ic oa ob
 go_enter Tryz.func4, Tryz.ntmps4
 go_upto_region 1 with fail
 have H1 : Hid (Ext w (((w.alloc (.cells #[.int .i64 xak, .int .i64 xan, .string xas, .int .i64 xae] 25)).alloc (.cells #[.int .i64 xbk, .int .i64 xbn, .string xbs, .int .i64 xbe] 25)).alloc (.cells #[.int .i64 xck, .int .i64 xcn, .string xcs, .int .i64 xce] 25)) ∧ Blk (((w.alloc (.cells #[.int .i64 xak, .int .i64 xan, .string xas, .int .i64 xae] 25)).alloc (.cells #[.int .i64 xbk, .int .i64 xbn, .string xbs, .int .i64 xbe] 25)).alloc (.cells #[.int .i64 xck, .int .i64 xcn, .string xcs, .int .i64 xce] 25)) w.heap.size (.int .i64 xak) (.int .i64 xan) (.string xas) (.int .i64 xae) ∧ Blk (((w.alloc (.cells #[.int .i64 xak, .int .i64 xan, .string xas, .int .i64 xae] 25)).alloc (.cells #[.int .i64 xbk, .int .i64 xbn, .string xbs, .int .i64 xbe] 25)).alloc (.cells #[.int .i64 xck, .int .i64 xcn, .string xcs, .int .i64 xce] 25)) (w.heap.size + 1) (.int .i64 xbk) (.int .i64 xbn) (.string xbs) (.int .i64 xbe) ∧ Blk (((w.alloc (.cells #[.int .i64 xak, .int .i64 xan, .string xas, .int .i64 xae] 25)).alloc (.cells #[.int .i64 xbk, .int .i64 xbn, .string xbs, .int .i64 xbe] 25)).alloc (.cells #[.int .i64 xck, .int .i64 xcn, .string xcs, .int .i64 xce] 25)) (w.heap.size + 1 + 1) (.int .i64 xck) (.int .i64 xcn) (.string xcs) (.int .i64 xce)) := ⟨(((Ext.refl _).alloc _).alloc _).alloc _, blk_top rfl (((Ext.refl _).alloc _).alloc _), blk_top (by simp) ((Ext.refl _).alloc _), blk_top (by simp) (Ext.refl _)⟩
 generalize (((w.alloc (.cells #[.int .i64 xak, .int .i64 xan, .string xas, .int .i64 xae] 25)).alloc (.cells #[.int .i64 xbk, .int .i64 xbn, .string xbs, .int .i64 xbe] 25)).alloc (.cells #[.int .i64 xck, .int .i64 xcn, .string xcs, .int .i64 xce] 25)) = w1 at *
 have mkS : Hid (∀ V, Ext w1 V → (V.cell? ⟨w.heap.size, 0, none⟩ = some (.int .i64 xak) ∧ V.cell? ⟨w.heap.size, 1, none⟩ = some (.int .i64 xan) ∧ V.cell? ⟨w.heap.size, 2, none⟩ = some (.string xas) ∧ V.cell? ⟨w.heap.size, 3, none⟩ = some (.int .i64 xae)) ∧ (V.cell? ⟨w.heap.size + 1, 0, none⟩ = some (.int .i64 xbk) ∧ V.cell? ⟨w.heap.size + 1, 1, none⟩ = some (.int .i64 xbn) ∧ V.cell? ⟨w.heap.size + 1, 2, none⟩ = some (.string xbs) ∧ V.cell? ⟨w.heap.size + 1, 3, none⟩ = some (.int .i64 xbe)) ∧ (V.cell? ⟨w.heap.size + 1 + 1, 0, none⟩ = some (.int .i64 xck) ∧ V.cell? ⟨w.heap.size + 1 + 1, 1, none⟩ = some (.int .i64 xcn) ∧ V.cell? ⟨w.heap.size + 1 + 1, 2, none⟩ = some (.string xcs) ∧ V.cell? ⟨w.heap.size + 1 + 1, 3, none⟩ = some (.int .i64 xce))) := fun V e => ⟨(H1.out.2.1.ext e).2.1, (H1.out.2.2.1.ext e).2.1, (H1.out.2.2.2.ext e).2.1⟩
 replace cI := fun V g (e : Ext w1 V) => cI.out V g (H1.out.1.trans e)
 refine bar_begin (B := fun _ => false) (S := fun V => (V.cell? ⟨w.heap.size, 0, none⟩ = some (.int .i64 xak) ∧ V.cell? ⟨w.heap.size, 1, none⟩ = some (.int .i64 xan) ∧ V.cell? ⟨w.heap.size, 2, none⟩ = some (.string xas) ∧ V.cell? ⟨w.heap.size, 3, none⟩ = some (.int .i64 xae)) ∧ (V.cell? ⟨w.heap.size + 1, 0, none⟩ = some (.int .i64 xbk) ∧ V.cell? ⟨w.heap.size + 1, 1, none⟩ = some (.int .i64 xbn) ∧ V.cell? ⟨w.heap.size + 1, 2, none⟩ = some (.string xbs) ∧ V.cell? ⟨w.heap.size + 1, 3, none⟩ = some (.int .i64 xbe)) ∧ (V.cell? ⟨w.heap.size + 1 + 1, 0, none⟩ = some (.int .i64 xck) ∧ V.cell? ⟨w.heap.size + 1 + 1, 1, none⟩ = some (.int .i64 xcn) ∧ V.cell? ⟨w.heap.size + 1 + 1, 2, none⟩ = some (.string xcs) ∧ V.cell? ⟨w.heap.size + 1 + 1, 3, none⟩ = some (.int .i64 xce))) (by kernel_rfl) ?_
 obtain ⟨y0, hy0⟩ : ∃ y0, World.drew w1 = y0 := ⟨_, rfl⟩
 have X : Hid (Ext w1 y0) := by show Ext _ _; rw [← hy0]; exact (Ext.refl _).drew
 rw [hy0]
 clear hy0
 have hS0 := mkS.out y0 X.out
 refine bar_takeL (i := 0) (v := ?vp0) rfl (by kernel_rfl) (by kernel_rfl) (by kernel_rfl) (by kernel_rfl) (fun _ _ _ h => h) (Or.inl ⟨by rfl, ?hyp0⟩) hS0 ?restp0
 case hyp0 => (intro W hSW; (try dsimp only at hSW); go_simp; with_reducible rfl)
 simp only [Act.put, List.setIfInBounds_toArray, List.set_cons_zero, List.set_cons_succ]
 refine bar_takeL (i := 2) (v := ?vp2) rfl (by kernel_rfl) (by kernel_rfl) (by kernel_rfl) (by kernel_rfl) (fun _ _ _ h => h) (Or.inl ⟨by rfl, ?hyp2⟩) hS0 ?restp2
 case hyp2 => (intro W hSW; (try dsimp only at hSW); go_simp; with_reducible rfl)
 simp only [Act.put, List.setIfInBounds_toArray, List.set_cons_zero, List.set_cons_succ]
 refine bar_takeL (i := 4) (v := ?vp4) rfl (by kernel_rfl) (by kernel_rfl) (by kernel_rfl) (by kernel_rfl) (fun _ _ _ h => h) (Or.inl ⟨by rfl, ?hyp4⟩) hS0 ?restp4
 case hyp4 => (intro W hSW; (try dsimp only at hSW); go_simp; with_reducible rfl)
 simp only [Act.put, List.setIfInBounds_toArray, List.set_cons_zero, List.set_cons_succ]
 clear hS0
 refine bar_cast #[true, false, true, false, true, false, false, false, false, false] rfl ?_
 refine ea_0 mkS cI ?hdone y0 X
 case hdone =>
   intro g1 g2 g3 gs ga y3 X3 GA NA
   have H3 : Hid ((Ext w y3 ∧ Blk y3 w.heap.size (.int .i64 xak) (.int .i64 xan) (.string xas) (.int .i64 xae) ∧ Blk y3 (w.heap.size + 1) (.int .i64 xbk) (.int .i64 xbn) (.string xbs) (.int .i64 xbe) ∧ Blk y3 (w.heap.size + 1 + 1) (.int .i64 xck) (.int .i64 xcn) (.string xcs) (.int .i64 xce)) ∧ Blk y3 ga (.int .i64 vv.k) (.int .i64 vv.n) (.string vv.s) (.int .i64 vv.e)) := ⟨⟨H1.out.1.trans X3.out, H1.out.2.1.ext X3.out, H1.out.2.2.1.ext X3.out, H1.out.2.2.2.ext X3.out⟩, GA.out⟩
   clear X3 GA NA cI mkS X y0 H1
   go_upto_region 2 with fail
   have mkS : Hid (∀ V, Ext y3 V → (V.cell? ⟨w.heap.size, 0, none⟩ = some (.int .i64 xak) ∧ V.cell? ⟨w.heap.size, 1, none⟩ = some (.int .i64 xan) ∧ V.cell? ⟨w.heap.size, 2, none⟩ = some (.string xas) ∧ V.cell? ⟨w.heap.size, 3, none⟩ = some (.int .i64 xae)) ∧ (V.cell? ⟨w.heap.size + 1, 0, none⟩ = some (.int .i64 xbk) ∧ V.cell? ⟨w.heap.size + 1, 1, none⟩ = some (.int .i64 xbn) ∧ V.cell? ⟨w.heap.size + 1, 2, none⟩ = some (.string xbs) ∧ V.cell? ⟨w.heap.size + 1, 3, none⟩ = some (.int .i64 xbe))) := fun V e => ⟨(H3.out.1.2.1.ext e).2.1, (H3.out.1.2.2.1.ext e).2.1⟩
   replace cJ := fun V g (e : Ext y3 V) => cJ.out V g (H3.out.1.1.trans e)
   refine bar_begin (B := fun _ => false) (S := fun V => (V.cell? ⟨w.heap.size, 0, none⟩ = some (.int .i64 xak) ∧ V.cell? ⟨w.heap.size, 1, none⟩ = some (.int .i64 xan) ∧ V.cell? ⟨w.heap.size, 2, none⟩ = some (.string xas) ∧ V.cell? ⟨w.heap.size, 3, none⟩ = some (.int .i64 xae)) ∧ (V.cell? ⟨w.heap.size + 1, 0, none⟩ = some (.int .i64 xbk) ∧ V.cell? ⟨w.heap.size + 1, 1, none⟩ = some (.int .i64 xbn) ∧ V.cell? ⟨w.heap.size + 1, 2, none⟩ = some (.string xbs) ∧ V.cell? ⟨w.heap.size + 1, 3, none⟩ = some (.int .i64 xbe))) (by kernel_rfl) ?_
   obtain ⟨y0, hy0⟩ : ∃ y0, World.drew y3 = y0 := ⟨_, rfl⟩
   have X : Hid (Ext y3 y0) := by show Ext _ _; rw [← hy0]; exact (Ext.refl _).drew
   rw [hy0]
   clear hy0
   have hS0 := mkS.out y0 X.out
   refine bar_takeL (i := 0) (v := ?vq0) rfl (by kernel_rfl) (by kernel_rfl) (by kernel_rfl) (by kernel_rfl) (fun _ _ _ h => h) (Or.inl ⟨by rfl, ?hyq0⟩) hS0 ?restq0
   case hyq0 => (intro W hSW; (try dsimp only at hSW); go_simp; with_reducible rfl)
   simp only [Act.put, List.setIfInBounds_toArray, List.set_cons_zero, List.set_cons_succ]
   refine bar_takeL (i := 2) (v := ?vq2) rfl (by kernel_rfl) (by kernel_rfl) (by kernel_rfl) (by kernel_rfl) (fun _ _ _ h => h) (Or.inl ⟨by rfl, ?hyq2⟩) hS0 ?restq2
   case hyq2 => (intro W hSW; (try dsimp only at hSW); go_simp; with_reducible rfl)
   simp only [Act.put, List.setIfInBounds_toArray, List.set_cons_zero, List.set_cons_succ]
   clear hS0
   refine bar_cast #[true, false, true, false, false, false, false, false] rfl ?_
   refine eb_0 mkS cJ ?hdone y0 X
   case hdone =>
     intro g1 g2 gs gb y5 X5 GB NB
     have H5 : Hid (((Ext w y5 ∧ Blk y5 w.heap.size (.int .i64 xak) (.int .i64 xan) (.string xas) (.int .i64 xae) ∧ Blk y5 (w.heap.size + 1) (.int .i64 xbk) (.int .i64 xbn) (.string xbs) (.int .i64 xbe) ∧ Blk y5 (w.heap.size + 1 + 1) (.int .i64 xck) (.int .i64 xcn) (.string xcs) (.int .i64 xce)) ∧ Blk y5 ga (.int .i64 vv.k) (.int .i64 vv.n) (.string vv.s) (.int .i64 vv.e)) ∧ Blk y5 gb (.int .i64 ww.k) (.int .i64 ww.n) (.string ww.s) (.int .i64 ww.e)) := ⟨⟨⟨H3.out.1.1.trans X5.out, H3.out.1.2.1.ext X5.out, H3.out.1.2.2.1.ext X5.out, H3.out.1.2.2.2.ext X5.out⟩, H3.out.2.ext X5.out⟩, GB.out⟩
     clear X5 GB NB cJ mkS X y0 H3
     go_upto_region 3 with fail
     have mkS : Hid (∀ V, Ext y5 V → (V.cell? ⟨w.heap.size, 0, none⟩ = some (.int .i64 xak) ∧ V.cell? ⟨w.heap.size, 1, none⟩ = some (.int .i64 xan) ∧ V.cell? ⟨w.heap.size, 2, none⟩ = some (.string xas) ∧ V.cell? ⟨w.heap.size, 3, none⟩ = some (.int .i64 xae)) ∧ (V.cell? ⟨w.heap.size + 1, 0, none⟩ = some (.int .i64 xbk) ∧ V.cell? ⟨w.heap.size + 1, 1, none⟩ = some (.int .i64 xbn) ∧ V.cell? ⟨w.heap.size + 1, 2, none⟩ = some (.string xbs) ∧ V.cell? ⟨w.heap.size + 1, 3, none⟩ = some (.int .i64 xbe))) := fun V e => ⟨(H5.out.1.1.2.1.ext e).2.1, (H5.out.1.1.2.2.1.ext e).2.1⟩
     refine bar_begin (B := fun _ => false) (S := fun V => (V.cell? ⟨w.heap.size, 0, none⟩ = some (.int .i64 xak) ∧ V.cell? ⟨w.heap.size, 1, none⟩ = some (.int .i64 xan) ∧ V.cell? ⟨w.heap.size, 2, none⟩ = some (.string xas) ∧ V.cell? ⟨w.heap.size, 3, none⟩ = some (.int .i64 xae)) ∧ (V.cell? ⟨w.heap.size + 1, 0, none⟩ = some (.int .i64 xbk) ∧ V.cell? ⟨w.heap.size + 1, 1, none⟩ = some (.int .i64 xbn) ∧ V.cell? ⟨w.heap.size + 1, 2, none⟩ = some (.string xbs) ∧ V.cell? ⟨w.heap.size + 1, 3, none⟩ = some (.int .i64 xbe))) (by kernel_rfl) ?_
     obtain ⟨y0, hy0⟩ : ∃ y0, World.drew y5 = y0 := ⟨_, rfl⟩
     have X : Hid (Ext y5 y0) := by show Ext _ _; rw [← hy0]; exact (Ext.refl _).drew
     rw [hy0]
     clear hy0
     have hS0 := mkS.out y0 X.out
     refine bar_takeL (i := 0) (v := ?vr0) rfl (by kernel_rfl) (by kernel_rfl) (by kernel_rfl) (by kernel_rfl) (fun _ _ _ h => h) (Or.inl ⟨by rfl, ?hyr0⟩) hS0 ?restr0
     case hyr0 => (intro W hSW; (try dsimp only at hSW); go_simp; with_reducible rfl)
     simp only [Act.put, List.setIfInBounds_toArray, List.set_cons_zero, List.set_cons_succ]
     refine bar_takeL (i := 2) (v := ?vr2) rfl (by kernel_rfl) (by kernel_rfl) (by kernel_rfl) (by kernel_rfl) (fun _ _ _ h => h) (Or.inl ⟨by rfl, ?hyr2⟩) hS0 ?restr2
     case hyr2 => (intro W hSW; (try dsimp only at hSW); go_simp; with_reducible rfl)
     simp only [Act.put, List.setIfInBounds_toArray, List.set_cons_zero, List.set_cons_succ]
     clear hS0
     refine bar_cast #[true, false, true, false, false, false, false, false] rfl ?_
     refine ec_0 mkS cA cB ?hdone y0 X
     case hdone =>
       intro gc gd y9 X9 GC GD NC ND HD
       have HZ0 : Hid (Ext w y9 ∧ Blk y9 w.heap.size (.int .i64 xak) (.int .i64 xan) (.string xas) (.int .i64 xae) ∧ Blk y9 ga (.int .i64 vv.k) (.int .i64 vv.n) (.string vv.s) (.int .i64 vv.e) ∧ Blk y9 gb (.int .i64 ww.k) (.int .i64 ww.n) (.string ww.s) (.int .i64 ww.e) ∧ Blk y9 gc (.int .i64 xv.k) (.int .i64 xv.n) (.string xv.s) (.int .i64 xv.e) ∧ Blk y9 gd (.int .i64 yv.k) (.int .i64 yv.n) (.string yv.s) (.int .i64 yv.e)) := ⟨H5.out.1.1.1.trans X9.out, H5.out.1.1.2.1.ext X9.out, H5.out.1.2.ext X9.out, H5.out.2.ext X9.out, GC.out, GD.out⟩
       clear X9 GC GD NC ND HD cA cB mkS X y0 H5
       by_cases hx : xv.k = 4
       · have hv := (HV.out hx).symm
         have hw := HW.out
         rw [if_pos hx] at hw
         replace hw := hw.symm
         subst hv hw
         have ex : (xv.k == 4) = true := by simp [hx]
         rw [ex] at cS
         have cB : ∀ V, Calls Tryz.prog 15 #[.bool true] V fun r w' => r = .returned (.agg #[.int .i64 1, .int .i64 1, .string ⟨#[]⟩, .int .i64 0]) ∧ Ext V w' := fun V => rbool_any true V
         simp only [V.k, V.n, V.s, V.e, if_true] at cS
         by_cases hy : yv.k = 4
         · have ey : (yv.k == 4) = true := by simp [hy]
           clear hx hy HV HW
           have HZ := HZ0
           have HY9 : Hid (Ext w y9 ∧ Blk y9 w.heap.size (.int .i64 xak) (.int .i64 xan) (.string xas) (.int .i64 xae) ∧ Blk y9 ga (.int .i64 xv.k) (.int .i64 xv.n) (.string xv.s) (.int .i64 xv.e) ∧ Blk y9 gb (.int .i64 yv.k) (.int .i64 yv.n) (.string yv.s) (.int .i64 yv.e) ∧ Blk y9 gc (.int .i64 xv.k) (.int .i64 xv.n) (.string xv.s) (.int .i64 xv.e) ∧ Blk y9 gd (.int .i64 yv.k) (.int .i64 yv.n) (.string yv.s) (.int .i64 yv.e)) := HZ.out
           obtain ⟨zv, ⟨vv0, vv1, vv2, vv3⟩, _⟩ := HY9.out.2.2.1
           obtain ⟨zx, ⟨xx0, xx1, xx2, xx3⟩, _⟩ := HY9.out.2.2.2.2.1
           go_upto_region 6 with fail
           clear vv0 vv1 vv2 vv3 xx0 xx1 xx2 xx3
           have mkS : Hid (∀ V, Ext y9 V → (V.cell? ⟨w.heap.size, 0, none⟩ = some (.int .i64 xak) ∧ V.cell? ⟨w.heap.size, 1, none⟩ = some (.int .i64 xan) ∧ V.cell? ⟨w.heap.size, 2, none⟩ = some (.string xas) ∧ V.cell? ⟨w.heap.size, 3, none⟩ = some (.int .i64 xae)) ∧ (V.cell? ⟨gb, 0, none⟩ = some (.int .i64 yv.k) ∧ V.cell? ⟨gb, 1, none⟩ = some (.int .i64 yv.n) ∧ V.cell? ⟨gb, 2, none⟩ = some (.string yv.s) ∧ V.cell? ⟨gb, 3, none⟩ = some (.int .i64 yv.e)) ∧ (V.cell? ⟨gc, 0, none⟩ = some (.int .i64 xv.k) ∧ V.cell? ⟨gc, 1, none⟩ = some (.int .i64 xv.n) ∧ V.cell? ⟨gc, 2, none⟩ = some (.string xv.s) ∧ V.cell? ⟨gc, 3, none⟩ = some (.int .i64 xv.e)) ∧ (V.cell? ⟨gd, 0, none⟩ = some (.int .i64 yv.k) ∧ V.cell? ⟨gd, 1, none⟩ = some (.int .i64 yv.n) ∧ V.cell? ⟨gd, 2, none⟩ = some (.string yv.s) ∧ V.cell? ⟨gd, 3, none⟩ = some (.int .i64 yv.e))) := fun V e => ⟨(HY9.out.2.1.ext e).2.1, (HY9.out.2.2.2.1.ext e).2.1, (HY9.out.2.2.2.2.1.ext e).2.1, (HY9.out.2.2.2.2.2.ext e).2.1⟩
           refine wp_region_held_drew (S := (fun V => (V.cell? ⟨w.heap.size, 0, none⟩ = some (.int .i64 xak) ∧ V.cell? ⟨w.heap.size, 1, none⟩ = some (.int .i64 xan) ∧ V.cell? ⟨w.heap.size, 2, none⟩ = some (.string xas) ∧ V.cell? ⟨w.heap.size, 3, none⟩ = some (.int .i64 xae)) ∧ (V.cell? ⟨gb, 0, none⟩ = some (.int .i64 yv.k) ∧ V.cell? ⟨gb, 1, none⟩ = some (.int .i64 yv.n) ∧ V.cell? ⟨gb, 2, none⟩ = some (.string yv.s) ∧ V.cell? ⟨gb, 3, none⟩ = some (.int .i64 yv.e)) ∧ (V.cell? ⟨gc, 0, none⟩ = some (.int .i64 xv.k) ∧ V.cell? ⟨gc, 1, none⟩ = some (.int .i64 xv.n) ∧ V.cell? ⟨gc, 2, none⟩ = some (.string xv.s) ∧ V.cell? ⟨gc, 3, none⟩ = some (.int .i64 xv.e)) ∧ (V.cell? ⟨gd, 0, none⟩ = some (.int .i64 yv.k) ∧ V.cell? ⟨gd, 1, none⟩ = some (.int .i64 yv.n) ∧ V.cell? ⟨gd, 2, none⟩ = some (.string yv.s) ∧ V.cell? ⟨gd, 3, none⟩ = some (.int .i64 yv.e)))) (by kernel_rfl) ?_ (fun hHeld0 => ?_)
           · (refine mkS.out _ ?_; ((with_reducible (repeat (first | assumption | exact Ext.refl _ | apply Ext.alloc | apply Ext.drew | apply Ext.drewN))); done))
           refine wpAnyH_take (i := 0) (oi := ⟨some 37, .fieldAddr 25 (.tmp 8) 0, 0, "law.go:46", #[], none⟩) (v := ?_) rfl (by kernel_rfl) (by kernel_rfl) (by kernel_rfl) (fun _ _ _ h => h) (Or.inl ⟨by rfl, ?_⟩) (by assumption) ?_
           rotate_left
           · intro w hSw; (try dsimp only at hSw); first | (go_simp; done) | (go_simp; with_reducible rfl)
           try simp only [Act.put, List.setIfInBounds_toArray, List.set_cons_zero, List.set_cons_succ]
           refine wpAnyH_take (i := 1) (oi := ⟨some 38, .load 3 (.tmp 37), 3, "law.go:46", #[⟨0, .data⟩], none⟩) (v := ?_) rfl (by kernel_rfl) (by kernel_rfl) (by kernel_rfl) (fun _ _ _ h => h) (Or.inl ⟨by rfl, ?_⟩) (by assumption) ?_
           rotate_left
           · intro w hSw; (try dsimp only at hSw); first | (go_simp; done) | (go_simp; with_reducible rfl)
           try simp only [Act.put, List.setIfInBounds_toArray, List.set_cons_zero, List.set_cons_succ]
           refine wpAnyH_take (i := 2) (oi := ⟨some 39, .binOp .eql 3 (.tmp 38) (.const (.int .i64 4)) 3, 4, "law.go:46", #[⟨1, .data⟩], none⟩) (v := ?_) rfl (by kernel_rfl) (by kernel_rfl) (by kernel_rfl) (fun _ _ _ h => h) (Or.inl ⟨by rfl, ?_⟩) (by assumption) ?_
           rotate_left
           · intro w hSw; (try dsimp only at hSw); first | (go_simp; done) | (go_simp; with_reducible rfl)
           try simp only [Act.put, List.setIfInBounds_toArray, List.set_cons_zero, List.set_cons_succ]
           refine wpAnyH_take (i := 3) (oi := ⟨some 40, .fieldAddr 25 (.tmp 9) 0, 0, "law.go:46", #[], none⟩) (v := ?_) rfl (by kernel_rfl) (by kernel_rfl) (by kernel_rfl) (fun _ _ _ h => h) (Or.inl ⟨by rfl, ?_⟩) (by assumption) ?_
           rotate_left
           · intro w hSw; (try dsimp only at hSw); first | (go_simp; done) | (go_simp; with_reducible rfl)
           try simp only [Act.put, List.setIfInBounds_toArray, List.set_cons_zero, List.set_cons_succ]
           refine wpAnyH_take (i := 4) (oi := ⟨some 41, .load 3 (.tmp 40), 3, "law.go:46", #[⟨3, .data⟩], none⟩) (v := ?_) rfl (by kernel_rfl) (by kernel_rfl) (by kernel_rfl) (fun _ _ _ h => h) (Or.inl ⟨by rfl, ?_⟩) (by assumption) ?_
           rotate_left
           · intro w hSw; (try dsimp only at hSw); first | (go_simp; done) | (go_simp; with_reducible rfl)
           try simp only [Act.put, List.setIfInBounds_toArray, List.set_cons_zero, List.set_cons_succ]
           refine wpAnyH_take (i := 5) (oi := ⟨some 42, .binOp .eql 3 (.tmp 41) (.const (.int .i64 4)) 3, 4, "law.go:46", #[⟨4, .data⟩], none⟩) (v := ?_) rfl (by kernel_rfl) (by kernel_rfl) (by kernel_rfl) (fun _ _ _ h => h) (Or.inl ⟨by rfl, ?_⟩) (by assumption) ?_
           rotate_left
           · intro w hSw; (try dsimp only at hSw); first | (go_simp; done) | (go_simp; with_reducible rfl)
           try simp only [Act.put, List.setIfInBounds_toArray, List.set_cons_zero, List.set_cons_succ]
           refine wpAnyH_take (i := 6) (oi := ⟨some 43, .move (.tmp 42), 4, "law.go:46", #[⟨5, .data⟩], none⟩) (v := ?_) rfl (by kernel_rfl) (by kernel_rfl) (by kernel_rfl) (fun _ _ _ h => h) (Or.inl ⟨by rfl, ?_⟩) (by assumption) ?_
           rotate_left
           · intro w hSw; (try dsimp only at hSw); first | (go_simp; done) | (go_simp; with_reducible rfl)
           try simp only [Act.put, List.setIfInBounds_toArray, List.set_cons_zero, List.set_cons_succ]
           refine wpAnyH_take (i := 7) (oi := ⟨some 44, .fieldAddr 25 (.tmp 10) 0, 0, "law.go:46", #[⟨6, .guard⟩], some (6, true)⟩) (v := ?_) rfl (by kernel_rfl) (by kernel_rfl) (by kernel_rfl) (fun _ _ _ h => h) (Or.inl ⟨by rfl, ?_⟩) (by assumption) ?_
           rotate_left
           · intro w hSw; (try dsimp only at hSw); first | (go_simp; done) | (go_simp; with_reducible rfl)
           try simp only [Act.put, List.setIfInBounds_toArray, List.set_cons_zero, List.set_cons_succ]
           refine wpAnyH_take (i := 8) (oi := ⟨some 45, .load 3 (.tmp 44), 3, "law.go:46", #[⟨7, .data⟩, ⟨6, .guard⟩], some (6, true)⟩) (v := ?_) rfl (by kernel_rfl) (by kernel_rfl) (by kernel_rfl) (fun _ _ _ h => h) (Or.inl ⟨by rfl, ?_⟩) (by assumption) ?_
           rotate_left
           · intro w hSw; (try dsimp only at hSw); first | (go_simp; done) | (go_simp; with_reducible rfl)
           try simp only [Act.put, List.setIfInBounds_toArray, List.set_cons_zero, List.set_cons_succ]
           refine wpAnyH_take (i := 9) (oi := ⟨some 46, .binOp .eql 3 (.tmp 45) (.const (.int .i64 4)) 3, 4, "law.go:46", #[⟨8, .data⟩, ⟨6, .guard⟩], some (6, true)⟩) (v := ?_) rfl (by kernel_rfl) (by kernel_rfl) (by kernel_rfl) (fun _ _ _ h => h) (Or.inl ⟨by rfl, ?_⟩) (by assumption) ?_
           rotate_left
           · intro w hSw; (try dsimp only at hSw); first | (go_simp; done) | (go_simp; with_reducible rfl)
           try simp only [Act.put, List.setIfInBounds_toArray, List.set_cons_zero, List.set_cons_succ]
           refine wpAnyH_take (i := 10) (oi := ⟨some 47, .pick (.tmp 43) (.tmp 46) (.const (.bool false)), 4, "law.go:46", #[⟨6, .data⟩, ⟨9, .data⟩], none⟩) (v := ?_) rfl (by kernel_rfl) (by kernel_rfl) (by kernel_rfl) (fun _ _ _ h => h) (Or.inl ⟨by rfl, ?_⟩) (by assumption) ?_
           rotate_left
           · intro w hSw; (try dsimp only at hSw); first | (go_simp; done) | (go_simp; with_reducible rfl)
           try simp only [Act.put, List.setIfInBounds_toArray, List.set_cons_zero, List.set_cons_succ]
           refine wpAnyH_take (i := 11) (oi := ⟨some 48, .binOp .eql 4 (.tmp 39) (.tmp 47) 4, 4, "law.go:46", #[⟨2, .data⟩, ⟨10, .data⟩], none⟩) (v := ?_) rfl (by kernel_rfl) (by kernel_rfl) (by kernel_rfl) (fun _ _ _ h => h) (Or.inl ⟨by rfl, ?_⟩) (by assumption) ?_
           rotate_left
           · intro w hSw; (try dsimp only at hSw); first | (go_simp; done) | (go_simp; with_reducible rfl)
           try simp only [Act.put, List.setIfInBounds_toArray, List.set_cons_zero, List.set_cons_succ]
           refine wpAnyH_take (i := 12) (oi := ⟨some 49, .move (.tmp 48), 4, "law.go:46", #[⟨11, .data⟩, ⟨6, .chain⟩], none⟩) (v := ?_) rfl (by kernel_rfl) (by kernel_rfl) (by kernel_rfl) (fun _ _ _ h => h) (Or.inl ⟨by rfl, ?_⟩) (by assumption) ?_
           rotate_left
           · intro w hSw; (try dsimp only at hSw); first | (go_simp; done) | (go_simp; with_reducible rfl)
           try simp only [Act.put, List.setIfInBounds_toArray, List.set_cons_zero, List.set_cons_succ]
           refine wpAnyH_take (i := 13) (oi := ⟨some 50, .load 25 (.tmp 3), 25, "law.go:46", #[⟨12, .guard⟩], some (12, true)⟩) (v := ?_) rfl (by kernel_rfl) (by kernel_rfl) (by kernel_rfl) (fun _ _ _ h => h) (Or.inl ⟨by rfl, ?_⟩) (by assumption) ?_
           rotate_left
           · intro w hSw; (try dsimp only at hSw); first | (go_simp; done) | (go_simp; with_reducible rfl)
           try simp only [Act.put, List.setIfInBounds_toArray, List.set_cons_zero, List.set_cons_succ]
           refine wpAnyH_take (i := 17) (oi := ⟨some 54, .fieldAddr 25 (.tmp 9) 0, 0, "law.go:46", #[⟨12, .guard⟩], some (12, true)⟩) (v := ?_) rfl (by kernel_rfl) (by kernel_rfl) (by kernel_rfl) (fun _ _ _ h => h) (Or.inl ⟨by rfl, ?_⟩) (by assumption) ?_
           rotate_left
           · intro w hSw; (try dsimp only at hSw); first | (go_simp; done) | (go_simp; with_reducible rfl)
           try simp only [Act.put, List.setIfInBounds_toArray, List.set_cons_zero, List.set_cons_succ]
           refine wpAnyH_take (i := 18) (oi := ⟨some 55, .load 3 (.tmp 54), 3, "law.go:46", #[⟨17, .data⟩, ⟨12, .guard⟩], some (12, true)⟩) (v := ?_) rfl (by kernel_rfl) (by kernel_rfl) (by kernel_rfl) (fun _ _ _ h => h) (Or.inl ⟨by rfl, ?_⟩) (by assumption) ?_
           rotate_left
           · intro w hSw; (try dsimp only at hSw); first | (go_simp; done) | (go_simp; with_reducible rfl)
           try simp only [Act.put, List.setIfInBounds_toArray, List.set_cons_zero, List.set_cons_succ]
           refine wpAnyH_take (i := 19) (oi := ⟨some 56, .binOp .eql 3 (.tmp 55) (.const (.int .i64 4)) 3, 4, "law.go:46", #[⟨18, .data⟩, ⟨12, .guard⟩], some (12, true)⟩) (v := ?_) rfl (by kernel_rfl) (by kernel_rfl) (by kernel_rfl) (fun _ _ _ h => h) (Or.inl ⟨by rfl, ?_⟩) (by assumption) ?_
           rotate_left
           · intro w hSw; (try dsimp only at hSw); first | (go_simp; done) | (go_simp; with_reducible rfl)
           try simp only [Act.put, List.setIfInBounds_toArray, List.set_cons_zero, List.set_cons_succ]
           refine wpAnyH_ready (rs := [14]) (by kernel_rfl) (by simp) ?_
           refine AllReadyH.cons (o := ⟨some 51, .call { callee := .value (.func 13), args := #[.tmp 50], argTypes := #[25] }, 31, "law.go:46", #[⟨13, .data⟩, ⟨12, .chain⟩, ⟨12, .guard⟩], some (12, true)⟩) rfl (fun K hK => ?_) AllReadyH.nil
           go_simp
           (go_at_call 13; refine Calls.mono (of_any xak xan xas xae _) ?_; rintro e y2 ⟨g2, rfl, B2, E2⟩; have X2 : Ext y9 y2 := Ext.trans (by with_reducible repeat (first | assumption | exact Ext.refl _ | apply Ext.alloc | apply Ext.drew | apply Ext.drewN)) E2; have HB2 : Hid (Blk y2 g2 (.int .i64 xak) (.int .i64 xan) (.string xas) (.int .i64 xae)) := B2; clear B2 E2)
           try go_wp2_with fail
           refine hK.out _ _ ?_ (fun hHeld1 => ?_)
           · (try dsimp only); (refine mkS.out _ ?_; ((with_reducible (repeat (first | assumption | exact Ext.refl _ | apply Ext.alloc | apply Ext.drew | apply Ext.drewN))); done))
           clear hK K hHeld0
           try simp only [Act.put, List.setIfInBounds_toArray, List.set_cons_zero, List.set_cons_succ]
           refine wpAnyH_ready (rs := [15]) (by kernel_rfl) (by simp) ?_
           refine AllReadyH.cons (o := ⟨some 52, .buildSlice 22 1 #[(0, .tmp 51)], 22, "law.go:46", #[⟨14, .data⟩, ⟨12, .guard⟩], some (12, true)⟩) rfl (fun K hK => ?_) AllReadyH.nil
           go_simp
           skip
           try go_wp2_with fail
           refine hK.out _ _ ?_ (fun hHeld2 => ?_)
           · (try dsimp only); (refine mkS.out _ ?_; ((with_reducible (repeat (first | assumption | exact Ext.refl _ | apply Ext.alloc | apply Ext.drew | apply Ext.drewN))); done))
           clear hK K hHeld1
           try simp only [Act.put, List.setIfInBounds_toArray, List.set_cons_zero, List.set_cons_succ]
           refine wpAnyH_ready (rs := [16]) (by kernel_rfl) (by simp) ?_
           refine AllReadyH.cons (o := ⟨some 53, .call { callee := .value (.func 10), args := #[.const (.string ⟨#[73, 83, 69, 82, 82, 79, 82]⟩), .tmp 52], argTypes := #[9, 22] }, 25, "law.go:46", #[⟨15, .data⟩, ⟨14, .chain⟩, ⟨12, .guard⟩], some (12, true)⟩) rfl (fun K hK => ?_) AllReadyH.nil
           go_simp
           (go_at_call 10; refine Calls.mono (cS _ _ HB2.out (HY9.out.1.trans X2)) ?_; rintro e y3 ⟨rfl, E3⟩; have X3 : Ext y9 y3 := Ext.trans (by with_reducible repeat (first | assumption | exact Ext.refl _ | apply Ext.alloc | apply Ext.drew | apply Ext.drewN)) E3)
           try go_wp2_with fail
           refine hK.out _ _ ?_ (fun hHeld3 => ?_)
           · (try dsimp only); (refine mkS.out _ ?_; ((with_reducible (repeat (first | assumption | exact Ext.refl _ | apply Ext.alloc | apply Ext.drew | apply Ext.drewN))); done))
           clear hK K hHeld2
           try simp only [Act.put, List.setIfInBounds_toArray, List.set_cons_zero, List.set_cons_succ]
           refine wpAnyH_ready (rs := [20]) (by kernel_rfl) (by simp) ?_
           refine AllReadyH.cons (o := ⟨some 57, .call { callee := .value (.func 15), args := #[.tmp 56], argTypes := #[4] }, 25, "law.go:46", #[⟨19, .data⟩, ⟨16, .chain⟩, ⟨12, .guard⟩], some (12, true)⟩) rfl (fun K hK => ?_) AllReadyH.nil
           go_simp
           (go_at_call 15; refine Calls.mono (cB _) ?_; rintro e y4 ⟨rfl, E4⟩; have X4 : Ext y9 y4 := Ext.trans (by with_reducible repeat (first | assumption | exact Ext.refl _ | apply Ext.alloc | apply Ext.drew | apply Ext.drewN)) E4)
           try go_wp2_with fail
           refine hK.out _ _ ?_ (fun hHeld4 => ?_)
           · (try dsimp only); (refine mkS.out _ ?_; ((with_reducible (repeat (first | assumption | exact Ext.refl _ | apply Ext.alloc | apply Ext.drew | apply Ext.drewN))); done))
           clear hK K hHeld3
           try simp only [Act.put, List.setIfInBounds_toArray, List.set_cons_zero, List.set_cons_succ]
           refine wpAnyH_take (i := 21) (oi := ⟨some 58, .binOp .eql 25 (.tmp 53) (.tmp 57) 25, 4, "law.go:46", #[⟨16, .data⟩, ⟨20, .data⟩, ⟨12, .guard⟩], some (12, true)⟩) (v := ?_) rfl (by kernel_rfl) (by kernel_rfl) (by kernel_rfl) (fun _ _ _ h => h) (Or.inl ⟨by rfl, ?_⟩) (by assumption) ?_
           rotate_left
           · intro w hSw; (try dsimp only at hSw); first | (go_simp; done) | (go_simp; with_reducible rfl)
           try simp only [Act.put, List.setIfInBounds_toArray, List.set_cons_zero, List.set_cons_succ]
           refine wpAnyH_take (i := 22) (oi := ⟨some 59, .pick (.tmp 49) (.tmp 58) (.const (.bool false)), 4, "law.go:46", #[⟨12, .data⟩, ⟨21, .data⟩], none⟩) (v := ?_) rfl (by kernel_rfl) (by kernel_rfl) (by kernel_rfl) (fun _ _ _ h => h) (Or.inl ⟨by rfl, ?_⟩) (by assumption) ?_
           rotate_left
           · intro w hSw; (try dsimp only at hSw); first | (go_simp; done) | (go_simp; with_reducible rfl)
           try simp only [Act.put, List.setIfInBounds_toArray, List.set_cons_zero, List.set_cons_succ]
           refine wpAnyH_take (i := 23) (oi := ⟨some 60, .move (.tmp 59), 4, "law.go:46", #[⟨22, .data⟩, ⟨20, .chain⟩], none⟩) (v := ?_) rfl (by kernel_rfl) (by kernel_rfl) (by kernel_rfl) (fun _ _ _ h => h) (Or.inl ⟨by rfl, ?_⟩) (by assumption) ?_
           rotate_left
           · intro w hSw; (try dsimp only at hSw); first | (go_simp; done) | (go_simp; with_reducible rfl)
           try simp only [Act.put, List.setIfInBounds_toArray, List.set_cons_zero, List.set_cons_succ]
           refine wpAnyH_ready (rs := [24]) (by kernel_rfl) (by simp) ?_
           refine AllReadyH.cons (o := ⟨some 61, .call { callee := .value (.func 9), args := #[], argTypes := #[] }, 4, "law.go:46", #[⟨23, .chain⟩, ⟨23, .guard⟩], some (23, true)⟩) rfl (fun K hK => ?_) AllReadyH.nil
           go_simp
           (go_at_call 9; refine Calls.mono (cV _ (HY9.out.1.trans (by with_reducible repeat (first | assumption | exact Ext.refl _ | apply Ext.alloc | apply Ext.drew | apply Ext.drewN)))) ?_; rintro e y5 ⟨rfl, E5⟩; have X5 : Ext y9 y5 := Ext.trans (by with_reducible repeat (first | assumption | exact Ext.refl _ | apply Ext.alloc | apply Ext.drew | apply Ext.drewN)) E5)
           try go_wp2_with fail
           refine hK.out _ _ ?_ (fun hHeld5 => ?_)
           · (try dsimp only); (refine mkS.out _ ?_; ((with_reducible (repeat (first | assumption | exact Ext.refl _ | apply Ext.alloc | apply Ext.drew | apply Ext.drewN))); done))
           clear hK K hHeld4
           try simp only [Act.put, List.setIfInBounds_toArray, List.set_cons_zero, List.set_cons_succ]
           refine wpAnyH_take (i := 25) (oi := ⟨some 62, .pick (.tmp 60) (.tmp 61) (.const (.bool false)), 4, "law.go:46", #[⟨23, .data⟩, ⟨24, .data⟩], none⟩) (v := ?_) rfl (by kernel_rfl) (by kernel_rfl) (by kernel_rfl) (fun _ _ _ h => h) (Or.inl ⟨by rfl, ?_⟩) (by assumption) ?_
           rotate_left
           · intro w hSw; (try dsimp only at hSw); first | (go_simp; done) | (go_simp; with_reducible rfl)
           try simp only [Act.put, List.setIfInBounds_toArray, List.set_cons_zero, List.set_cons_succ]
           refine wpAnyH_take (i := 26) (oi := ⟨some 6, .assign (.tmp 62), 4, "law.go:46", #[⟨25, .data⟩, ⟨24, .chain⟩, ⟨0, .phase⟩, ⟨1, .phase⟩, ⟨2, .phase⟩, ⟨3, .phase⟩, ⟨4, .phase⟩, ⟨5, .phase⟩, ⟨6, .phase⟩, ⟨7, .phase⟩, ⟨8, .phase⟩, ⟨9, .phase⟩, ⟨10, .phase⟩, ⟨11, .phase⟩, ⟨12, .phase⟩, ⟨13, .phase⟩, ⟨14, .phase⟩, ⟨15, .phase⟩, ⟨16, .phase⟩, ⟨17, .phase⟩, ⟨18, .phase⟩, ⟨19, .phase⟩, ⟨20, .phase⟩, ⟨21, .phase⟩, ⟨22, .phase⟩, ⟨23, .phase⟩, ⟨24, .phase⟩, ⟨25, .phase⟩], none⟩) (v := ?_) rfl (by kernel_rfl) (by kernel_rfl) (by kernel_rfl) (fun _ _ _ h => h) (Or.inl ⟨by rfl, ?_⟩) (by assumption) ?_
           rotate_left
           · intro w hSw; (try dsimp only at hSw); first | (go_simp; done) | (go_simp; with_reducible rfl)
           try simp only [Act.put, List.setIfInBounds_toArray, List.set_cons_zero, List.set_cons_succ]
           refine wpAnyH_done (by kernel_rfl) ?_ _
           go_wp2_with fail
           go_ret
           exact ⟨rfl, HY9.out.1.trans (by with_reducible repeat (first | assumption | exact Ext.refl _ | apply Ext.alloc | apply Ext.drew | apply Ext.drewN))⟩
         · have ey : (yv.k == 4) = false := by simp [hy]
           clear hx hy HV HW
           have HZ := HZ0
           have HY9 : Hid (Ext w y9 ∧ Blk y9 w.heap.size (.int .i64 xak) (.int .i64 xan) (.string xas) (.int .i64 xae) ∧ Blk y9 ga (.int .i64 xv.k) (.int .i64 xv.n) (.string xv.s) (.int .i64 xv.e) ∧ Blk y9 gb (.int .i64 yv.k) (.int .i64 yv.n) (.string yv.s) (.int .i64 yv.e) ∧ Blk y9 gc (.int .i64 xv.k) (.int .i64 xv.n) (.string xv.s) (.int .i64 xv.e) ∧ Blk y9 gd (.int .i64 yv.k) (.int .i64 yv.n) (.string yv.s) (.int .i64 yv.e)) := HZ.out
           obtain ⟨zv, ⟨vv0, vv1, vv2, vv3⟩, _⟩ := HY9.out.2.2.1
           obtain ⟨zx, ⟨xx0, xx1, xx2, xx3⟩, _⟩ := HY9.out.2.2.2.2.1
           go_upto_region 6 with fail
           clear vv0 vv1 vv2 vv3 xx0 xx1 xx2 xx3
           have mkS : Hid (∀ V, Ext y9 V → (V.cell? ⟨w.heap.size, 0, none⟩ = some (.int .i64 xak) ∧ V.cell? ⟨w.heap.size, 1, none⟩ = some (.int .i64 xan) ∧ V.cell? ⟨w.heap.size, 2, none⟩ = some (.string xas) ∧ V.cell? ⟨w.heap.size, 3, none⟩ = some (.int .i64 xae)) ∧ (V.cell? ⟨gb, 0, none⟩ = some (.int .i64 yv.k) ∧ V.cell? ⟨gb, 1, none⟩ = some (.int .i64 yv.n) ∧ V.cell? ⟨gb, 2, none⟩ = some (.string yv.s) ∧ V.cell? ⟨gb, 3, none⟩ = some (.int .i64 yv.e)) ∧ (V.cell? ⟨gc, 0, none⟩ = some (.int .i64 xv.k) ∧ V.cell? ⟨gc, 1, none⟩ = some (.int .i64 xv.n) ∧ V.cell? ⟨gc, 2, none⟩ = some (.string xv.s) ∧ V.cell? ⟨gc, 3, none⟩ = some (.int .i64 xv.e)) ∧ (V.cell? ⟨gd, 0, none⟩ = some (.int .i64 yv.k) ∧ V.cell? ⟨gd, 1, none⟩ = some (.int .i64 yv.n) ∧ V.cell? ⟨gd, 2, none⟩ = some (.string yv.s) ∧ V.cell? ⟨gd, 3, none⟩ = some (.int .i64 yv.e))) := fun V e => ⟨(HY9.out.2.1.ext e).2.1, (HY9.out.2.2.2.1.ext e).2.1, (HY9.out.2.2.2.2.1.ext e).2.1, (HY9.out.2.2.2.2.2.ext e).2.1⟩
           refine wp_region_held_drew (S := (fun V => (V.cell? ⟨w.heap.size, 0, none⟩ = some (.int .i64 xak) ∧ V.cell? ⟨w.heap.size, 1, none⟩ = some (.int .i64 xan) ∧ V.cell? ⟨w.heap.size, 2, none⟩ = some (.string xas) ∧ V.cell? ⟨w.heap.size, 3, none⟩ = some (.int .i64 xae)) ∧ (V.cell? ⟨gb, 0, none⟩ = some (.int .i64 yv.k) ∧ V.cell? ⟨gb, 1, none⟩ = some (.int .i64 yv.n) ∧ V.cell? ⟨gb, 2, none⟩ = some (.string yv.s) ∧ V.cell? ⟨gb, 3, none⟩ = some (.int .i64 yv.e)) ∧ (V.cell? ⟨gc, 0, none⟩ = some (.int .i64 xv.k) ∧ V.cell? ⟨gc, 1, none⟩ = some (.int .i64 xv.n) ∧ V.cell? ⟨gc, 2, none⟩ = some (.string xv.s) ∧ V.cell? ⟨gc, 3, none⟩ = some (.int .i64 xv.e)) ∧ (V.cell? ⟨gd, 0, none⟩ = some (.int .i64 yv.k) ∧ V.cell? ⟨gd, 1, none⟩ = some (.int .i64 yv.n) ∧ V.cell? ⟨gd, 2, none⟩ = some (.string yv.s) ∧ V.cell? ⟨gd, 3, none⟩ = some (.int .i64 yv.e)))) (by kernel_rfl) ?_ (fun hHeld0 => ?_)
           · (refine mkS.out _ ?_; ((with_reducible (repeat (first | assumption | exact Ext.refl _ | apply Ext.alloc | apply Ext.drew | apply Ext.drewN))); done))
           refine wpAnyH_take (i := 0) (oi := ⟨some 37, .fieldAddr 25 (.tmp 8) 0, 0, "law.go:46", #[], none⟩) (v := ?_) rfl (by kernel_rfl) (by kernel_rfl) (by kernel_rfl) (fun _ _ _ h => h) (Or.inl ⟨by rfl, ?_⟩) (by assumption) ?_
           rotate_left
           · intro w hSw; (try dsimp only at hSw); first | (go_simp; done) | (go_simp; with_reducible rfl)
           try simp only [Act.put, List.setIfInBounds_toArray, List.set_cons_zero, List.set_cons_succ]
           refine wpAnyH_take (i := 1) (oi := ⟨some 38, .load 3 (.tmp 37), 3, "law.go:46", #[⟨0, .data⟩], none⟩) (v := ?_) rfl (by kernel_rfl) (by kernel_rfl) (by kernel_rfl) (fun _ _ _ h => h) (Or.inl ⟨by rfl, ?_⟩) (by assumption) ?_
           rotate_left
           · intro w hSw; (try dsimp only at hSw); first | (go_simp; done) | (go_simp; with_reducible rfl)
           try simp only [Act.put, List.setIfInBounds_toArray, List.set_cons_zero, List.set_cons_succ]
           refine wpAnyH_take (i := 2) (oi := ⟨some 39, .binOp .eql 3 (.tmp 38) (.const (.int .i64 4)) 3, 4, "law.go:46", #[⟨1, .data⟩], none⟩) (v := ?_) rfl (by kernel_rfl) (by kernel_rfl) (by kernel_rfl) (fun _ _ _ h => h) (Or.inl ⟨by rfl, ?_⟩) (by assumption) ?_
           rotate_left
           · intro w hSw; (try dsimp only at hSw); first | (go_simp; done) | (go_simp; with_reducible rfl)
           try simp only [Act.put, List.setIfInBounds_toArray, List.set_cons_zero, List.set_cons_succ]
           refine wpAnyH_take (i := 3) (oi := ⟨some 40, .fieldAddr 25 (.tmp 9) 0, 0, "law.go:46", #[], none⟩) (v := ?_) rfl (by kernel_rfl) (by kernel_rfl) (by kernel_rfl) (fun _ _ _ h => h) (Or.inl ⟨by rfl, ?_⟩) (by assumption) ?_
           rotate_left
           · intro w hSw; (try dsimp only at hSw); first | (go_simp; done) | (go_simp; with_reducible rfl)
           try simp only [Act.put, List.setIfInBounds_toArray, List.set_cons_zero, List.set_cons_succ]
           refine wpAnyH_take (i := 4) (oi := ⟨some 41, .load 3 (.tmp 40), 3, "law.go:46", #[⟨3, .data⟩], none⟩) (v := ?_) rfl (by kernel_rfl) (by kernel_rfl) (by kernel_rfl) (fun _ _ _ h => h) (Or.inl ⟨by rfl, ?_⟩) (by assumption) ?_
           rotate_left
           · intro w hSw; (try dsimp only at hSw); first | (go_simp; done) | (go_simp; with_reducible rfl)
           try simp only [Act.put, List.setIfInBounds_toArray, List.set_cons_zero, List.set_cons_succ]
           refine wpAnyH_take (i := 5) (oi := ⟨some 42, .binOp .eql 3 (.tmp 41) (.const (.int .i64 4)) 3, 4, "law.go:46", #[⟨4, .data⟩], none⟩) (v := ?_) rfl (by kernel_rfl) (by kernel_rfl) (by kernel_rfl) (fun _ _ _ h => h) (Or.inl ⟨by rfl, ?_⟩) (by assumption) ?_
           rotate_left
           · intro w hSw; (try dsimp only at hSw); first | (go_simp; done) | (go_simp; with_reducible rfl)
           try simp only [Act.put, List.setIfInBounds_toArray, List.set_cons_zero, List.set_cons_succ]
           refine wpAnyH_take (i := 6) (oi := ⟨some 43, .move (.tmp 42), 4, "law.go:46", #[⟨5, .data⟩], none⟩) (v := ?_) rfl (by kernel_rfl) (by kernel_rfl) (by kernel_rfl) (fun _ _ _ h => h) (Or.inl ⟨by rfl, ?_⟩) (by assumption) ?_
           rotate_left
           · intro w hSw; (try dsimp only at hSw); first | (go_simp; done) | (go_simp; with_reducible rfl)
           try simp only [Act.put, List.setIfInBounds_toArray, List.set_cons_zero, List.set_cons_succ]
           refine wpAnyH_take (i := 7) (oi := ⟨some 44, .fieldAddr 25 (.tmp 10) 0, 0, "law.go:46", #[⟨6, .guard⟩], some (6, true)⟩) (v := ?_) rfl (by kernel_rfl) (by kernel_rfl) (by kernel_rfl) (fun _ _ _ h => h) (Or.inl ⟨by rfl, ?_⟩) (by assumption) ?_
           rotate_left
           · intro w hSw; (try dsimp only at hSw); first | (go_simp; done) | (go_simp; with_reducible rfl)
           try simp only [Act.put, List.setIfInBounds_toArray, List.set_cons_zero, List.set_cons_succ]
           refine wpAnyH_take (i := 8) (oi := ⟨some 45, .load 3 (.tmp 44), 3, "law.go:46", #[⟨7, .data⟩, ⟨6, .guard⟩], some (6, true)⟩) (v := ?_) rfl (by kernel_rfl) (by kernel_rfl) (by kernel_rfl) (fun _ _ _ h => h) (Or.inl ⟨by rfl, ?_⟩) (by assumption) ?_
           rotate_left
           · intro w hSw; (try dsimp only at hSw); first | (go_simp; done) | (go_simp; with_reducible rfl)
           try simp only [Act.put, List.setIfInBounds_toArray, List.set_cons_zero, List.set_cons_succ]
           refine wpAnyH_take (i := 9) (oi := ⟨some 46, .binOp .eql 3 (.tmp 45) (.const (.int .i64 4)) 3, 4, "law.go:46", #[⟨8, .data⟩, ⟨6, .guard⟩], some (6, true)⟩) (v := ?_) rfl (by kernel_rfl) (by kernel_rfl) (by kernel_rfl) (fun _ _ _ h => h) (Or.inl ⟨by rfl, ?_⟩) (by assumption) ?_
           rotate_left
           · intro w hSw; (try dsimp only at hSw); first | (go_simp; done) | (go_simp; with_reducible rfl)
           try simp only [Act.put, List.setIfInBounds_toArray, List.set_cons_zero, List.set_cons_succ]
           refine wpAnyH_take (i := 10) (oi := ⟨some 47, .pick (.tmp 43) (.tmp 46) (.const (.bool false)), 4, "law.go:46", #[⟨6, .data⟩, ⟨9, .data⟩], none⟩) (v := ?_) rfl (by kernel_rfl) (by kernel_rfl) (by kernel_rfl) (fun _ _ _ h => h) (Or.inl ⟨by rfl, ?_⟩) (by assumption) ?_
           rotate_left
           · intro w hSw; (try dsimp only at hSw); first | (go_simp; done) | (go_simp; with_reducible rfl)
           try simp only [Act.put, List.setIfInBounds_toArray, List.set_cons_zero, List.set_cons_succ]
           refine wpAnyH_take (i := 11) (oi := ⟨some 48, .binOp .eql 4 (.tmp 39) (.tmp 47) 4, 4, "law.go:46", #[⟨2, .data⟩, ⟨10, .data⟩], none⟩) (v := ?_) rfl (by kernel_rfl) (by kernel_rfl) (by kernel_rfl) (fun _ _ _ h => h) (Or.inl ⟨by rfl, ?_⟩) (by assumption) ?_
           rotate_left
           · intro w hSw; (try dsimp only at hSw); first | (go_simp; done) | (go_simp; with_reducible rfl)
           try simp only [Act.put, List.setIfInBounds_toArray, List.set_cons_zero, List.set_cons_succ]
           refine wpAnyH_take (i := 12) (oi := ⟨some 49, .move (.tmp 48), 4, "law.go:46", #[⟨11, .data⟩, ⟨6, .chain⟩], none⟩) (v := ?_) rfl (by kernel_rfl) (by kernel_rfl) (by kernel_rfl) (fun _ _ _ h => h) (Or.inl ⟨by rfl, ?_⟩) (by assumption) ?_
           rotate_left
           · intro w hSw; (try dsimp only at hSw); first | (go_simp; done) | (go_simp; with_reducible rfl)
           try simp only [Act.put, List.setIfInBounds_toArray, List.set_cons_zero, List.set_cons_succ]
           refine wpAnyH_take (i := 13) (oi := ⟨some 50, .load 25 (.tmp 3), 25, "law.go:46", #[⟨12, .guard⟩], some (12, true)⟩) (v := ?_) rfl (by kernel_rfl) (by kernel_rfl) (by kernel_rfl) (fun _ _ _ h => h) (Or.inl ⟨by rfl, ?_⟩) (by assumption) ?_
           rotate_left
           · intro w hSw; (try dsimp only at hSw); first | (go_simp; done) | (go_simp; with_reducible rfl)
           try simp only [Act.put, List.setIfInBounds_toArray, List.set_cons_zero, List.set_cons_succ]
           refine wpAnyH_take (i := 17) (oi := ⟨some 54, .fieldAddr 25 (.tmp 9) 0, 0, "law.go:46", #[⟨12, .guard⟩], some (12, true)⟩) (v := ?_) rfl (by kernel_rfl) (by kernel_rfl) (by kernel_rfl) (fun _ _ _ h => h) (Or.inl ⟨by rfl, ?_⟩) (by assumption) ?_
           rotate_left
           · intro w hSw; (try dsimp only at hSw); first | (go_simp; done) | (go_simp; with_reducible rfl)
           try simp only [Act.put, List.setIfInBounds_toArray, List.set_cons_zero, List.set_cons_succ]
           refine wpAnyH_take (i := 18) (oi := ⟨some 55, .load 3 (.tmp 54), 3, "law.go:46", #[⟨17, .data⟩, ⟨12, .guard⟩], some (12, true)⟩) (v := ?_) rfl (by kernel_rfl) (by kernel_rfl) (by kernel_rfl) (fun _ _ _ h => h) (Or.inl ⟨by rfl, ?_⟩) (by assumption) ?_
           rotate_left
           · intro w hSw; (try dsimp only at hSw); first | (go_simp; done) | (go_simp; with_reducible rfl)
           try simp only [Act.put, List.setIfInBounds_toArray, List.set_cons_zero, List.set_cons_succ]
           refine wpAnyH_take (i := 19) (oi := ⟨some 56, .binOp .eql 3 (.tmp 55) (.const (.int .i64 4)) 3, 4, "law.go:46", #[⟨18, .data⟩, ⟨12, .guard⟩], some (12, true)⟩) (v := ?_) rfl (by kernel_rfl) (by kernel_rfl) (by kernel_rfl) (fun _ _ _ h => h) (Or.inl ⟨by rfl, ?_⟩) (by assumption) ?_
           rotate_left
           · intro w hSw; (try dsimp only at hSw); first | (go_simp; done) | (go_simp; with_reducible rfl)
           try simp only [Act.put, List.setIfInBounds_toArray, List.set_cons_zero, List.set_cons_succ]
           refine wpAnyH_ready (rs := [14]) (by kernel_rfl) (by simp) ?_
           refine AllReadyH.cons (o := ⟨some 51, .call { callee := .value (.func 13), args := #[.tmp 50], argTypes := #[25] }, 31, "law.go:46", #[⟨13, .data⟩, ⟨12, .chain⟩, ⟨12, .guard⟩], some (12, true)⟩) rfl (fun K hK => ?_) AllReadyH.nil
           go_simp
           (go_at_call 13; refine Calls.mono (of_any xak xan xas xae _) ?_; rintro e y2 ⟨g2, rfl, B2, E2⟩; have X2 : Ext y9 y2 := Ext.trans (by with_reducible repeat (first | assumption | exact Ext.refl _ | apply Ext.alloc | apply Ext.drew | apply Ext.drewN)) E2; have HB2 : Hid (Blk y2 g2 (.int .i64 xak) (.int .i64 xan) (.string xas) (.int .i64 xae)) := B2; clear B2 E2)
           try go_wp2_with fail
           refine hK.out _ _ ?_ (fun hHeld1 => ?_)
           · (try dsimp only); (refine mkS.out _ ?_; ((with_reducible (repeat (first | assumption | exact Ext.refl _ | apply Ext.alloc | apply Ext.drew | apply Ext.drewN))); done))
           clear hK K hHeld0
           try simp only [Act.put, List.setIfInBounds_toArray, List.set_cons_zero, List.set_cons_succ]
           refine wpAnyH_ready (rs := [15]) (by kernel_rfl) (by simp) ?_
           refine AllReadyH.cons (o := ⟨some 52, .buildSlice 22 1 #[(0, .tmp 51)], 22, "law.go:46", #[⟨14, .data⟩, ⟨12, .guard⟩], some (12, true)⟩) rfl (fun K hK => ?_) AllReadyH.nil
           go_simp
           skip
           try go_wp2_with fail
           refine hK.out _ _ ?_ (fun hHeld2 => ?_)
           · (try dsimp only); (refine mkS.out _ ?_; ((with_reducible (repeat (first | assumption | exact Ext.refl _ | apply Ext.alloc | apply Ext.drew | apply Ext.drewN))); done))
           clear hK K hHeld1
           try simp only [Act.put, List.setIfInBounds_toArray, List.set_cons_zero, List.set_cons_succ]
           refine wpAnyH_ready (rs := [16]) (by kernel_rfl) (by simp) ?_
           refine AllReadyH.cons (o := ⟨some 53, .call { callee := .value (.func 10), args := #[.const (.string ⟨#[73, 83, 69, 82, 82, 79, 82]⟩), .tmp 52], argTypes := #[9, 22] }, 25, "law.go:46", #[⟨15, .data⟩, ⟨14, .chain⟩, ⟨12, .guard⟩], some (12, true)⟩) rfl (fun K hK => ?_) AllReadyH.nil
           go_simp
           (go_at_call 10; refine Calls.mono (cS _ _ HB2.out (HY9.out.1.trans X2)) ?_; rintro e y3 ⟨rfl, E3⟩; have X3 : Ext y9 y3 := Ext.trans (by with_reducible repeat (first | assumption | exact Ext.refl _ | apply Ext.alloc | apply Ext.drew | apply Ext.drewN)) E3)
           try go_wp2_with fail
           refine hK.out _ _ ?_ (fun hHeld3 => ?_)
           · (try dsimp only); (refine mkS.out _ ?_; ((with_reducible (repeat (first | assumption | exact Ext.refl _ | apply Ext.alloc | apply Ext.drew | apply Ext.drewN))); done))
           clear hK K hHeld2
           try simp only [Act.put, List.setIfInBounds_toArray, List.set_cons_zero, List.set_cons_succ]
           refine wpAnyH_ready (rs := [20]) (by kernel_rfl) (by simp) ?_
           refine AllReadyH.cons (o := ⟨some 57, .call { callee := .value (.func 15), args := #[.tmp 56], argTypes := #[4] }, 25, "law.go:46", #[⟨19, .data⟩, ⟨16, .chain⟩, ⟨12, .guard⟩], some (12, true)⟩) rfl (fun K hK => ?_) AllReadyH.nil
           go_simp
           (go_at_call 15; refine Calls.mono (cB _) ?_; rintro e y4 ⟨rfl, E4⟩; have X4 : Ext y9 y4 := Ext.trans (by with_reducible repeat (first | assumption | exact Ext.refl _ | apply Ext.alloc | apply Ext.drew | apply Ext.drewN)) E4)
           try go_wp2_with fail
           refine hK.out _ _ ?_ (fun hHeld4 => ?_)
           · (try dsimp only); (refine mkS.out _ ?_; ((with_reducible (repeat (first | assumption | exact Ext.refl _ | apply Ext.alloc | apply Ext.drew | apply Ext.drewN))); done))
           clear hK K hHeld3
           try simp only [Act.put, List.setIfInBounds_toArray, List.set_cons_zero, List.set_cons_succ]
           refine wpAnyH_take (i := 21) (oi := ⟨some 58, .binOp .eql 25 (.tmp 53) (.tmp 57) 25, 4, "law.go:46", #[⟨16, .data⟩, ⟨20, .data⟩, ⟨12, .guard⟩], some (12, true)⟩) (v := ?_) rfl (by kernel_rfl) (by kernel_rfl) (by kernel_rfl) (fun _ _ _ h => h) (Or.inl ⟨by rfl, ?_⟩) (by assumption) ?_
           rotate_left
           · intro w hSw; (try dsimp only at hSw); first | (go_simp; done) | (go_simp; with_reducible rfl)
           try simp only [Act.put, List.setIfInBounds_toArray, List.set_cons_zero, List.set_cons_succ]
           refine wpAnyH_take (i := 22) (oi := ⟨some 59, .pick (.tmp 49) (.tmp 58) (.const (.bool false)), 4, "law.go:46", #[⟨12, .data⟩, ⟨21, .data⟩], none⟩) (v := ?_) rfl (by kernel_rfl) (by kernel_rfl) (by kernel_rfl) (fun _ _ _ h => h) (Or.inl ⟨by rfl, ?_⟩) (by assumption) ?_
           rotate_left
           · intro w hSw; (try dsimp only at hSw); first | (go_simp; done) | (go_simp; with_reducible rfl)
           try simp only [Act.put, List.setIfInBounds_toArray, List.set_cons_zero, List.set_cons_succ]
           refine wpAnyH_take (i := 23) (oi := ⟨some 60, .move (.tmp 59), 4, "law.go:46", #[⟨22, .data⟩, ⟨20, .chain⟩], none⟩) (v := ?_) rfl (by kernel_rfl) (by kernel_rfl) (by kernel_rfl) (fun _ _ _ h => h) (Or.inl ⟨by rfl, ?_⟩) (by assumption) ?_
           rotate_left
           · intro w hSw; (try dsimp only at hSw); first | (go_simp; done) | (go_simp; with_reducible rfl)
           try simp only [Act.put, List.setIfInBounds_toArray, List.set_cons_zero, List.set_cons_succ]
           refine wpAnyH_ready (rs := [24]) (by kernel_rfl) (by simp) ?_
           refine AllReadyH.cons (o := ⟨some 61, .call { callee := .value (.func 9), args := #[], argTypes := #[] }, 4, "law.go:46", #[⟨23, .chain⟩, ⟨23, .guard⟩], some (23, true)⟩) rfl (fun K hK => ?_) AllReadyH.nil
           go_simp
           (go_at_call 9; refine Calls.mono (cV _ (HY9.out.1.trans (by with_reducible repeat (first | assumption | exact Ext.refl _ | apply Ext.alloc | apply Ext.drew | apply Ext.drewN)))) ?_; rintro e y5 ⟨rfl, E5⟩; have X5 : Ext y9 y5 := Ext.trans (by with_reducible repeat (first | assumption | exact Ext.refl _ | apply Ext.alloc | apply Ext.drew | apply Ext.drewN)) E5)
           try go_wp2_with fail
           refine hK.out _ _ ?_ (fun hHeld5 => ?_)
           · (try dsimp only); (refine mkS.out _ ?_; ((with_reducible (repeat (first | assumption | exact Ext.refl _ | apply Ext.alloc | apply Ext.drew | apply Ext.drewN))); done))
           clear hK K hHeld4
           try simp only [Act.put, List.setIfInBounds_toArray, List.set_cons_zero, List.set_cons_succ]
           refine wpAnyH_take (i := 25) (oi := ⟨some 62, .pick (.tmp 60) (.tmp 61) (.const (.bool false)), 4, "law.go:46", #[⟨23, .data⟩, ⟨24, .data⟩], none⟩) (v := ?_) rfl (by kernel_rfl) (by kernel_rfl) (by kernel_rfl) (fun _ _ _ h => h) (Or.inl ⟨by rfl, ?_⟩) (by assumption) ?_
           rotate_left
           · intro w hSw; (try dsimp only at hSw); first | (go_simp; done) | (go_simp; with_reducible rfl)
           try simp only [Act.put, List.setIfInBounds_toArray, List.set_cons_zero, List.set_cons_succ]
           refine wpAnyH_take (i := 26) (oi := ⟨some 6, .assign (.tmp 62), 4, "law.go:46", #[⟨25, .data⟩, ⟨24, .chain⟩, ⟨0, .phase⟩, ⟨1, .phase⟩, ⟨2, .phase⟩, ⟨3, .phase⟩, ⟨4, .phase⟩, ⟨5, .phase⟩, ⟨6, .phase⟩, ⟨7, .phase⟩, ⟨8, .phase⟩, ⟨9, .phase⟩, ⟨10, .phase⟩, ⟨11, .phase⟩, ⟨12, .phase⟩, ⟨13, .phase⟩, ⟨14, .phase⟩, ⟨15, .phase⟩, ⟨16, .phase⟩, ⟨17, .phase⟩, ⟨18, .phase⟩, ⟨19, .phase⟩, ⟨20, .phase⟩, ⟨21, .phase⟩, ⟨22, .phase⟩, ⟨23, .phase⟩, ⟨24, .phase⟩, ⟨25, .phase⟩], none⟩) (v := ?_) rfl (by kernel_rfl) (by kernel_rfl) (by kernel_rfl) (fun _ _ _ h => h) (Or.inl ⟨by rfl, ?_⟩) (by assumption) ?_
           rotate_left
           · intro w hSw; (try dsimp only at hSw); first | (go_simp; done) | (go_simp; with_reducible rfl)
           try simp only [Act.put, List.setIfInBounds_toArray, List.set_cons_zero, List.set_cons_succ]
           refine wpAnyH_done (by kernel_rfl) ?_ _
           go_wp2_with fail
           go_ret
           exact ⟨rfl, HY9.out.1.trans (by with_reducible repeat (first | assumption | exact Ext.refl _ | apply Ext.alloc | apply Ext.drew | apply Ext.drewN))⟩
       · have hw := HW.out
         rw [if_neg hx] at hw
         replace hw := hw.symm
         subst hw
         have ex : (xv.k == 4) = false := by simp [hx]
         rw [ex] at cS
         have cB : ∀ V, Calls Tryz.prog 15 #[.bool false] V fun r w' => r = .returned (.agg #[.int .i64 1, .int .i64 0, .string ⟨#[]⟩, .int .i64 0]) ∧ Ext V w' := fun V => rbool_any false V
         simp only [V.k, V.n, V.s, V.e, Bool.false_eq_true, if_false] at cS
         clear hx HV HW
         have HZ := HZ0
         have HY9 : Hid (Ext w y9 ∧ Blk y9 w.heap.size (.int .i64 xak) (.int .i64 xan) (.string xas) (.int .i64 xae) ∧ Blk y9 ga (.int .i64 vv.k) (.int .i64 vv.n) (.string vv.s) (.int .i64 vv.e) ∧ Blk y9 gb (.int .i64 xv.k) (.int .i64 xv.n) (.string xv.s) (.int .i64 xv.e) ∧ Blk y9 gc (.int .i64 xv.k) (.int .i64 xv.n) (.string xv.s) (.int .i64 xv.e) ∧ Blk y9 gd (.int .i64 yv.k) (.int .i64 yv.n) (.string yv.s) (.int .i64 yv.e)) := HZ.out
         obtain ⟨zv, ⟨vv0, vv1, vv2, vv3⟩, _⟩ := HY9.out.2.2.1
         obtain ⟨zx, ⟨xx0, xx1, xx2, xx3⟩, _⟩ := HY9.out.2.2.2.2.1
         go_upto_region 6 with fail
         clear vv0 vv1 vv2 vv3 xx0 xx1 xx2 xx3
         have mkS : Hid (∀ V, Ext y9 V → (V.cell? ⟨w.heap.size, 0, none⟩ = some (.int .i64 xak) ∧ V.cell? ⟨w.heap.size, 1, none⟩ = some (.int .i64 xan) ∧ V.cell? ⟨w.heap.size, 2, none⟩ = some (.string xas) ∧ V.cell? ⟨w.heap.size, 3, none⟩ = some (.int .i64 xae)) ∧ (V.cell? ⟨gb, 0, none⟩ = some (.int .i64 xv.k) ∧ V.cell? ⟨gb, 1, none⟩ = some (.int .i64 xv.n) ∧ V.cell? ⟨gb, 2, none⟩ = some (.string xv.s) ∧ V.cell? ⟨gb, 3, none⟩ = some (.int .i64 xv.e)) ∧ (V.cell? ⟨gc, 0, none⟩ = some (.int .i64 xv.k) ∧ V.cell? ⟨gc, 1, none⟩ = some (.int .i64 xv.n) ∧ V.cell? ⟨gc, 2, none⟩ = some (.string xv.s) ∧ V.cell? ⟨gc, 3, none⟩ = some (.int .i64 xv.e)) ∧ (V.cell? ⟨gd, 0, none⟩ = some (.int .i64 yv.k) ∧ V.cell? ⟨gd, 1, none⟩ = some (.int .i64 yv.n) ∧ V.cell? ⟨gd, 2, none⟩ = some (.string yv.s) ∧ V.cell? ⟨gd, 3, none⟩ = some (.int .i64 yv.e))) := fun V e => ⟨(HY9.out.2.1.ext e).2.1, (HY9.out.2.2.2.1.ext e).2.1, (HY9.out.2.2.2.2.1.ext e).2.1, (HY9.out.2.2.2.2.2.ext e).2.1⟩
         refine wp_region_held_drew (S := (fun V => (V.cell? ⟨w.heap.size, 0, none⟩ = some (.int .i64 xak) ∧ V.cell? ⟨w.heap.size, 1, none⟩ = some (.int .i64 xan) ∧ V.cell? ⟨w.heap.size, 2, none⟩ = some (.string xas) ∧ V.cell? ⟨w.heap.size, 3, none⟩ = some (.int .i64 xae)) ∧ (V.cell? ⟨gb, 0, none⟩ = some (.int .i64 xv.k) ∧ V.cell? ⟨gb, 1, none⟩ = some (.int .i64 xv.n) ∧ V.cell? ⟨gb, 2, none⟩ = some (.string xv.s) ∧ V.cell? ⟨gb, 3, none⟩ = some (.int .i64 xv.e)) ∧ (V.cell? ⟨gc, 0, none⟩ = some (.int .i64 xv.k) ∧ V.cell? ⟨gc, 1, none⟩ = some (.int .i64 xv.n) ∧ V.cell? ⟨gc, 2, none⟩ = some (.string xv.s) ∧ V.cell? ⟨gc, 3, none⟩ = some (.int .i64 xv.e)) ∧ (V.cell? ⟨gd, 0, none⟩ = some (.int .i64 yv.k) ∧ V.cell? ⟨gd, 1, none⟩ = some (.int .i64 yv.n) ∧ V.cell? ⟨gd, 2, none⟩ = some (.string yv.s) ∧ V.cell? ⟨gd, 3, none⟩ = some (.int .i64 yv.e)))) (by kernel_rfl) ?_ (fun hHeld0 => ?_)
         · (refine mkS.out _ ?_; ((with_reducible (repeat (first | assumption | exact Ext.refl _ | apply Ext.alloc | apply Ext.drew | apply Ext.drewN))); done))
         refine wpAnyH_take (i := 0) (oi := ⟨some 37, .fieldAddr 25 (.tmp 8) 0, 0, "law.go:46", #[], none⟩) (v := ?_) rfl (by kernel_rfl) (by kernel_rfl) (by kernel_rfl) (fun _ _ _ h => h) (Or.inl ⟨by rfl, ?_⟩) (by assumption) ?_
         rotate_left
         · intro w hSw; (try dsimp only at hSw); first | (go_simp; done) | (go_simp; with_reducible rfl)
         try simp only [Act.put, List.setIfInBounds_toArray, List.set_cons_zero, List.set_cons_succ]
         refine wpAnyH_take (i := 1) (oi := ⟨some 38, .load 3 (.tmp 37), 3, "law.go:46", #[⟨0, .data⟩], none⟩) (v := ?_) rfl (by kernel_rfl) (by kernel_rfl) (by kernel_rfl) (fun _ _ _ h => h) (Or.inl ⟨by rfl, ?_⟩) (by assumption) ?_
         rotate_left
         · intro w hSw; (try dsimp only at hSw); first | (go_simp; done) | (go_simp; with_reducible rfl)
         try simp only [Act.put, List.setIfInBounds_toArray, List.set_cons_zero, List.set_cons_succ]
         refine wpAnyH_take (i := 2) (oi := ⟨some 39, .binOp .eql 3 (.tmp 38) (.const (.int .i64 4)) 3, 4, "law.go:46", #[⟨1, .data⟩], none⟩) (v := ?_) rfl (by kernel_rfl) (by kernel_rfl) (by kernel_rfl) (fun _ _ _ h => h) (Or.inl ⟨by rfl, ?_⟩) (by assumption) ?_
         rotate_left
         · intro w hSw; (try dsimp only at hSw); first | (go_simp; done) | (go_simp; with_reducible rfl)
         try simp only [Act.put, List.setIfInBounds_toArray, List.set_cons_zero, List.set_cons_succ]
         refine wpAnyH_take (i := 3) (oi := ⟨some 40, .fieldAddr 25 (.tmp 9) 0, 0, "law.go:46", #[], none⟩) (v := ?_) rfl (by kernel_rfl) (by kernel_rfl) (by kernel_rfl) (fun _ _ _ h => h) (Or.inl ⟨by rfl, ?_⟩) (by assumption) ?_
         rotate_left
         · intro w hSw; (try dsimp only at hSw); first | (go_simp; done) | (go_simp; with_reducible rfl)
         try simp only [Act.put, List.setIfInBounds_toArray, List.set_cons_zero, List.set_cons_succ]
         refine wpAnyH_take (i := 4) (oi := ⟨some 41, .load 3 (.tmp 40), 3, "law.go:46", #[⟨3, .data⟩], none⟩) (v := ?_) rfl (by kernel_rfl) (by kernel_rfl) (by kernel_rfl) (fun _ _ _ h => h) (Or.inl ⟨by rfl, ?_⟩) (by assumption) ?_
         rotate_left
         · intro w hSw; (try dsimp only at hSw); first | (go_simp; done) | (go_simp; with_reducible rfl)
         try simp only [Act.put, List.setIfInBounds_toArray, List.set_cons_zero, List.set_cons_succ]
         refine wpAnyH_take (i := 5) (oi := ⟨some 42, .binOp .eql 3 (.tmp 41) (.const (.int .i64 4)) 3, 4, "law.go:46", #[⟨4, .data⟩], none⟩) (v := ?_) rfl (by kernel_rfl) (by kernel_rfl) (by kernel_rfl) (fun _ _ _ h => h) (Or.inl ⟨by rfl, ?_⟩) (by assumption) ?_
         rotate_left
         · intro w hSw; (try dsimp only at hSw); first | (go_simp; done) | (go_simp; with_reducible rfl)
         try simp only [Act.put, List.setIfInBounds_toArray, List.set_cons_zero, List.set_cons_succ]
         refine wpAnyH_take (i := 6) (oi := ⟨some 43, .move (.tmp 42), 4, "law.go:46", #[⟨5, .data⟩], none⟩) (v := ?_) rfl (by kernel_rfl) (by kernel_rfl) (by kernel_rfl) (fun _ _ _ h => h) (Or.inl ⟨by rfl, ?_⟩) (by assumption) ?_
         rotate_left
         · intro w hSw; (try dsimp only at hSw); first | (go_simp; done) | (go_simp; with_reducible rfl)
         try simp only [Act.put, List.setIfInBounds_toArray, List.set_cons_zero, List.set_cons_succ]
         refine wpAnyH_take (i := 7) (oi := ⟨some 44, .fieldAddr 25 (.tmp 10) 0, 0, "law.go:46", #[⟨6, .guard⟩], some (6, true)⟩) (v := undef) rfl (by kernel_rfl) (by kernel_rfl) (by kernel_rfl) (fun _ _ _ h => h) (Or.inr ⟨by rfl, rfl⟩) (by assumption) ?_
         try simp only [Act.put, List.setIfInBounds_toArray, List.set_cons_zero, List.set_cons_succ]
         refine wpAnyH_take (i := 8) (oi := ⟨some 45, .load 3 (.tmp 44), 3, "law.go:46", #[⟨7, .data⟩, ⟨6, .guard⟩], some (6, true)⟩) (v := undef) rfl (by kernel_rfl) (by kernel_rfl) (by kernel_rfl) (fun _ _ _ h => h) (Or.inr ⟨by rfl, rfl⟩) (by assumption) ?_
         try simp only [Act.put, List.setIfInBounds_toArray, List.set_cons_zero, List.set_cons_succ]
         refine wpAnyH_take (i := 9) (oi := ⟨some 46, .binOp .eql 3 (.tmp 45) (.const (.int .i64 4)) 3, 4, "law.go:46", #[⟨8, .data⟩, ⟨6, .guard⟩], some (6, true)⟩) (v := undef) rfl (by kernel_rfl) (by kernel_rfl) (by kernel_rfl) (fun _ _ _ h => h) (Or.inr ⟨by rfl, rfl⟩) (by assumption) ?_
         try simp only [Act.put, List.setIfInBounds_toArray, List.set_cons_zero, List.set_cons_succ]
         refine wpAnyH_take (i := 10) (oi := ⟨some 47, .pick (.tmp 43) (.tmp 46) (.const (.bool false)), 4, "law.go:46", #[⟨6, .data⟩, ⟨9, .data⟩], none⟩) (v := ?_) rfl (by kernel_rfl) (by kernel_rfl) (by kernel_rfl) (fun _ _ _ h => h) (Or.inl ⟨by rfl, ?_⟩) (by assumption) ?_
         rotate_left
         · intro w hSw; (try dsimp only at hSw); first | (go_simp; done) | (go_simp; with_reducible rfl)
         try simp only [Act.put, List.setIfInBounds_toArray, List.set_cons_zero, List.set_cons_succ]
         refine wpAnyH_take (i := 11) (oi := ⟨some 48, .binOp .eql 4 (.tmp 39) (.tmp 47) 4, 4, "law.go:46", #[⟨2, .data⟩, ⟨10, .data⟩], none⟩) (v := ?_) rfl (by kernel_rfl) (by kernel_rfl) (by kernel_rfl) (fun _ _ _ h => h) (Or.inl ⟨by rfl, ?_⟩) (by assumption) ?_
         rotate_left
         · intro w hSw; (try dsimp only at hSw); first | (go_simp; done) | (go_simp; with_reducible rfl)
         try simp only [Act.put, List.setIfInBounds_toArray, List.set_cons_zero, List.set_cons_succ]
         refine wpAnyH_take (i := 12) (oi := ⟨some 49, .move (.tmp 48), 4, "law.go:46", #[⟨11, .data⟩, ⟨6, .chain⟩], none⟩) (v := ?_) rfl (by kernel_rfl) (by kernel_rfl) (by kernel_rfl) (fun _ _ _ h => h) (Or.inl ⟨by rfl, ?_⟩) (by assumption) ?_
         rotate_left
         · intro w hSw; (try dsimp only at hSw); first | (go_simp; done) | (go_simp; with_reducible rfl)
         try simp only [Act.put, List.setIfInBounds_toArray, List.set_cons_zero, List.set_cons_succ]
         refine wpAnyH_take (i := 13) (oi := ⟨some 50, .load 25 (.tmp 3), 25, "law.go:46", #[⟨12, .guard⟩], some (12, true)⟩) (v := ?_) rfl (by kernel_rfl) (by kernel_rfl) (by kernel_rfl) (fun _ _ _ h => h) (Or.inl ⟨by rfl, ?_⟩) (by assumption) ?_
         rotate_left
         · intro w hSw; (try dsimp only at hSw); first | (go_simp; done) | (go_simp; with_reducible rfl)
         try simp only [Act.put, List.setIfInBounds_toArray, List.set_cons_zero, List.set_cons_succ]
         refine wpAnyH_take (i := 17) (oi := ⟨some 54, .fieldAddr 25 (.tmp 9) 0, 0, "law.go:46", #[⟨12, .guard⟩], some (12, true)⟩) (v := ?_) rfl (by kernel_rfl) (by kernel_rfl) (by kernel_rfl) (fun _ _ _ h => h) (Or.inl ⟨by rfl, ?_⟩) (by assumption) ?_
         rotate_left
         · intro w hSw; (try dsimp only at hSw); first | (go_simp; done) | (go_simp; with_reducible rfl)
         try simp only [Act.put, List.setIfInBounds_toArray, List.set_cons_zero, List.set_cons_succ]
         refine wpAnyH_take (i := 18) (oi := ⟨some 55, .load 3 (.tmp 54), 3, "law.go:46", #[⟨17, .data⟩, ⟨12, .guard⟩], some (12, true)⟩) (v := ?_) rfl (by kernel_rfl) (by kernel_rfl) (by kernel_rfl) (fun _ _ _ h => h) (Or.inl ⟨by rfl, ?_⟩) (by assumption) ?_
         rotate_left
         · intro w hSw; (try dsimp only at hSw); first | (go_simp; done) | (go_simp; with_reducible rfl)
         try simp only [Act.put, List.setIfInBounds_toArray, List.set_cons_zero, List.set_cons_succ]
         refine wpAnyH_take (i := 19) (oi := ⟨some 56, .binOp .eql 3 (.tmp 55) (.const (.int .i64 4)) 3, 4, "law.go:46", #[⟨18, .data⟩, ⟨12, .guard⟩], some (12, true)⟩) (v := ?_) rfl (by kernel_rfl) (by kernel_rfl) (by kernel_rfl) (fun _ _ _ h => h) (Or.inl ⟨by rfl, ?_⟩) (by assumption) ?_
         rotate_left
         · intro w hSw; (try dsimp only at hSw); first | (go_simp; done) | (go_simp; with_reducible rfl)
         try simp only [Act.put, List.setIfInBounds_toArray, List.set_cons_zero, List.set_cons_succ]
         refine wpAnyH_ready (rs := [14]) (by kernel_rfl) (by simp) ?_
         refine AllReadyH.cons (o := ⟨some 51, .call { callee := .value (.func 13), args := #[.tmp 50], argTypes := #[25] }, 31, "law.go:46", #[⟨13, .data⟩, ⟨12, .chain⟩, ⟨12, .guard⟩], some (12, true)⟩) rfl (fun K hK => ?_) AllReadyH.nil
         go_simp
         (go_at_call 13; refine Calls.mono (of_any xak xan xas xae _) ?_; rintro e y2 ⟨g2, rfl, B2, E2⟩; have X2 : Ext y9 y2 := Ext.trans (by with_reducible repeat (first | assumption | exact Ext.refl _ | apply Ext.alloc | apply Ext.drew | apply Ext.drewN)) E2; have HB2 : Hid (Blk y2 g2 (.int .i64 xak) (.int .i64 xan) (.string xas) (.int .i64 xae)) := B2; clear B2 E2)
         try go_wp2_with fail
         refine hK.out _ _ ?_ (fun hHeld1 => ?_)
         · (try dsimp only); (refine mkS.out _ ?_; ((with_reducible (repeat (first | assumption | exact Ext.refl _ | apply Ext.alloc | apply Ext.drew | apply Ext.drewN))); done))
         clear hK K hHeld0
         try simp only [Act.put, List.setIfInBounds_toArray, List.set_cons_zero, List.set_cons_succ]
         refine wpAnyH_ready (rs := [15]) (by kernel_rfl) (by simp) ?_
         refine AllReadyH.cons (o := ⟨some 52, .buildSlice 22 1 #[(0, .tmp 51)], 22, "law.go:46", #[⟨14, .data⟩, ⟨12, .guard⟩], some (12, true)⟩) rfl (fun K hK => ?_) AllReadyH.nil
         go_simp
         skip
         try go_wp2_with fail
         refine hK.out _ _ ?_ (fun hHeld2 => ?_)
         · (try dsimp only); (refine mkS.out _ ?_; ((with_reducible (repeat (first | assumption | exact Ext.refl _ | apply Ext.alloc | apply Ext.drew | apply Ext.drewN))); done))
         clear hK K hHeld1
         try simp only [Act.put, List.setIfInBounds_toArray, List.set_cons_zero, List.set_cons_succ]
         refine wpAnyH_ready (rs := [16]) (by kernel_rfl) (by simp) ?_
         refine AllReadyH.cons (o := ⟨some 53, .call { callee := .value (.func 10), args := #[.const (.string ⟨#[73, 83, 69, 82, 82, 79, 82]⟩), .tmp 52], argTypes := #[9, 22] }, 25, "law.go:46", #[⟨15, .data⟩, ⟨14, .chain⟩, ⟨12, .guard⟩], some (12, true)⟩) rfl (fun K hK => ?_) AllReadyH.nil
         go_simp
         (go_at_call 10; refine Calls.mono (cS _ _ HB2.out (HY9.out.1.trans X2)) ?_; rintro e y3 ⟨rfl, E3⟩; have X3 : Ext y9 y3 := Ext.trans (by with_reducible repeat (first | assumption | exact Ext.refl _ | apply Ext.alloc | apply Ext.drew | apply Ext.drewN)) E3)
         try go_wp2_with fail
         refine hK.out _ _ ?_ (fun hHeld3 => ?_)
         · (try dsimp only); (refine mkS.out _ ?_; ((with_reducible (repeat (first | assumption | exact Ext.refl _ | apply Ext.alloc | apply Ext.drew | apply Ext.drewN))); done))
         clear hK K hHeld2
         try simp only [Act.put, List.setIfInBounds_toArray, List.set_cons_zero, List.set_cons_succ]
         refine wpAnyH_ready (rs := [20]) (by kernel_rfl) (by simp) ?_
         refine AllReadyH.cons (o := ⟨some 57, .call { callee := .value (.func 15), args := #[.tmp 56], argTypes := #[4] }, 25, "law.go:46", #[⟨19, .data⟩, ⟨16, .chain⟩, ⟨12, .guard⟩], some (12, true)⟩) rfl (fun K hK => ?_) AllReadyH.nil
         go_simp
         (go_at_call 15; refine Calls.mono (cB _) ?_; rintro e y4 ⟨rfl, E4⟩; have X4 : Ext y9 y4 := Ext.trans (by with_reducible repeat (first | assumption | exact Ext.refl _ | apply Ext.alloc | apply Ext.drew | apply Ext.drewN)) E4)
         try go_wp2_with fail
         refine hK.out _ _ ?_ (fun hHeld4 => ?_)
         · (try dsimp only); (refine mkS.out _ ?_; ((with_reducible (repeat (first | assumption | exact Ext.refl _ | apply Ext.alloc | apply Ext.drew | apply Ext.drewN))); done))
         clear hK K hHeld3
         try simp only [Act.put, List.setIfInBounds_toArray, List.set_cons_zero, List.set_cons_succ]
         refine wpAnyH_take (i := 21) (oi := ⟨some 58, .binOp .eql 25 (.tmp 53) (.tmp 57) 25, 4, "law.go:46", #[⟨16, .data⟩, ⟨20, .data⟩, ⟨12, .guard⟩], some (12, true)⟩) (v := ?_) rfl (by kernel_rfl) (by kernel_rfl) (by kernel_rfl) (fun _ _ _ h => h) (Or.inl ⟨by rfl, ?_⟩) (by assumption) ?_
         rotate_left
         · intro w hSw; (try dsimp only at hSw); first | (go_simp; done) | (go_simp; with_reducible rfl)
         try simp only [Act.put, List.setIfInBounds_toArray, List.set_cons_zero, List.set_cons_succ]
         refine wpAnyH_take (i := 22) (oi := ⟨some 59, .pick (.tmp 49) (.tmp 58) (.const (.bool false)), 4, "law.go:46", #[⟨12, .data⟩, ⟨21, .data⟩], none⟩) (v := ?_) rfl (by kernel_rfl) (by kernel_rfl) (by kernel_rfl) (fun _ _ _ h => h) (Or.inl ⟨by rfl, ?_⟩) (by assumption) ?_
         rotate_left
         · intro w hSw; (try dsimp only at hSw); first | (go_simp; done) | (go_simp; with_reducible rfl)
         try simp only [Act.put, List.setIfInBounds_toArray, List.set_cons_zero, List.set_cons_succ]
         refine wpAnyH_take (i := 23) (oi := ⟨some 60, .move (.tmp 59), 4, "law.go:46", #[⟨22, .data⟩, ⟨20, .chain⟩], none⟩) (v := ?_) rfl (by kernel_rfl) (by kernel_rfl) (by kernel_rfl) (fun _ _ _ h => h) (Or.inl ⟨by rfl, ?_⟩) (by assumption) ?_
         rotate_left
         · intro w hSw; (try dsimp only at hSw); first | (go_simp; done) | (go_simp; with_reducible rfl)
         try simp only [Act.put, List.setIfInBounds_toArray, List.set_cons_zero, List.set_cons_succ]
         refine wpAnyH_ready (rs := [24]) (by kernel_rfl) (by simp) ?_
         refine AllReadyH.cons (o := ⟨some 61, .call { callee := .value (.func 9), args := #[], argTypes := #[] }, 4, "law.go:46", #[⟨23, .chain⟩, ⟨23, .guard⟩], some (23, true)⟩) rfl (fun K hK => ?_) AllReadyH.nil
         go_simp
         (go_at_call 9; refine Calls.mono (cV _ (HY9.out.1.trans (by with_reducible repeat (first | assumption | exact Ext.refl _ | apply Ext.alloc | apply Ext.drew | apply Ext.drewN)))) ?_; rintro e y5 ⟨rfl, E5⟩; have X5 : Ext y9 y5 := Ext.trans (by with_reducible repeat (first | assumption | exact Ext.refl _ | apply Ext.alloc | apply Ext.drew | apply Ext.drewN)) E5)
         try go_wp2_with fail
         refine hK.out _ _ ?_ (fun hHeld5 => ?_)
         · (try dsimp only); (refine mkS.out _ ?_; ((with_reducible (repeat (first | assumption | exact Ext.refl _ | apply Ext.alloc | apply Ext.drew | apply Ext.drewN))); done))
         clear hK K hHeld4
         try simp only [Act.put, List.setIfInBounds_toArray, List.set_cons_zero, List.set_cons_succ]
         refine wpAnyH_take (i := 25) (oi := ⟨some 62, .pick (.tmp 60) (.tmp 61) (.const (.bool false)), 4, "law.go:46", #[⟨23, .data⟩, ⟨24, .data⟩], none⟩) (v := ?_) rfl (by kernel_rfl) (by kernel_rfl) (by kernel_rfl) (fun _ _ _ h => h) (Or.inl ⟨by rfl, ?_⟩) (by assumption) ?_
         rotate_left
         · intro w hSw; (try dsimp only at hSw); first | (go_simp; done) | (go_simp; with_reducible rfl)
         try simp only [Act.put, List.setIfInBounds_toArray, List.set_cons_zero, List.set_cons_succ]
         refine wpAnyH_take (i := 26) (oi := ⟨some 6, .assign (.tmp 62), 4, "law.go:46", #[⟨25, .data⟩, ⟨24, .chain⟩, ⟨0, .phase⟩, ⟨1, .phase⟩, ⟨2, .phase⟩, ⟨3, .phase⟩, ⟨4, .phase⟩, ⟨5, .phase⟩, ⟨6, .phase⟩, ⟨7, .phase⟩, ⟨8, .phase⟩, ⟨9, .phase⟩, ⟨10, .phase⟩, ⟨11, .phase⟩, ⟨12, .phase⟩, ⟨13, .phase⟩, ⟨14, .phase⟩, ⟨15, .phase⟩, ⟨16, .phase⟩, ⟨17, .phase⟩, ⟨18, .phase⟩, ⟨19, .phase⟩, ⟨20, .phase⟩, ⟨21, .phase⟩, ⟨22, .phase⟩, ⟨23, .phase⟩, ⟨24, .phase⟩, ⟨25, .phase⟩], none⟩) (v := ?_) rfl (by kernel_rfl) (by kernel_rfl) (by kernel_rfl) (fun _ _ _ h => h) (Or.inl ⟨by rfl, ?_⟩) (by assumption) ?_
         rotate_left
         · intro w hSw; (try dsimp only at hSw); first | (go_simp; done) | (go_simp; with_reducible rfl)
         try simp only [Act.put, List.setIfInBounds_toArray, List.set_cons_zero, List.set_cons_succ]
         refine wpAnyH_done (by kernel_rfl) ?_ _
         go_wp2_with fail
         go_ret
         exact ⟨rfl, HY9.out.1.trans (by with_reducible repeat (first | assumption | exact Ext.refl _ | apply Ext.alloc | apply Ext.drew | apply Ext.drewN))⟩

theorem laidOut : laidOutB Tryz.prog = true := by kernel_rfl
theorem cells_val : Tryz.prog.cellsOf 25 = 4 := by kernel_rfl
set_option maxRecDepth 100000 in
theorem contract (H : Type) (enc : TypeId × Value → H) (W : World) (base : Nat) (args : Array Value) (ds gs : List (DataW H)) (before : List MemPlace)
   (hval0 : ∀ (j : Nat) t v, Tryz.f4.params[j]? = some t → args[j]? = some v → Value.okWide Tryz.prog W .any base t v)
   (hW : DataW.Whole enc Tryz.prog Tryz.f4.params.toList Rows.funcsErrorsSpec.vars false W args.toList ds gs before) (hL : laidMetH Tryz.prog Rows.funcsErrorsRow.laid W) :
   Calls Tryz.prog 4 args W fun e W' => ∃ v, e = .returned v ∧ Rows.funcsErrorsSpec.post enc Tryz.prog Tryz.f4 false true false false W args v W' := by
 have hval := hval0
 have hW' := hW
 obtain ⟨p, q, hA0, hV, rfl, hfz, hnd⟩ := hW'
 have hA : DataW.TrodAll enc Tryz.prog W 0 (fun _ => true) true Tryz.f4.params.toList args.toList ds p := hA0
 rw [Tryz.params4] at hA hval
 obtain ⟨v0, vs0, d0, ds0, p0, q0, hargs, rfl, rfl, h0, r0⟩ := trodAll_cons hA
 obtain ⟨v1, vs1, d1, ds1, p1, q1, rfl, rfl, rfl, h1, r1⟩ := trodAll_cons r0
 obtain ⟨v2, vs2, d2, ds2, p2, q2, rfl, rfl, rfl, h2, r2⟩ := trodAll_cons r1
 obtain ⟨rfl, rfl, rfl⟩ := trodAll_nil r2
 obtain rfl : args = #[v0, v1, v2] := by cases args; simp_all
 obtain ⟨rfl, rfl⟩ := trodVars_none hV
 have j0 := h0
 have lt0 : ∀ x ∈ p0, x.block < W.heap.size := by obtain ⟨m, hm⟩ := j0; exact DataW.trod_lt m _ _ _ hm
 obtain ⟨cc0, cc1, cc2, cc3, yy0, yy1, yy2, yy3, m0, rfl, hd0, hp0, hy0, hy1, hy2, hy3⟩ := open_agg4 Tryz.underlying25 (by kernel_rfl) cells_val (hval 0 25 v0 rfl rfl) h0
 obtain ⟨Lk0, f0, _, wk0⟩ := DataW.trod_int Tryz.underlying3 hy0
 obtain ⟨Ln0, f1, _, wn0⟩ := DataW.trod_int Tryz.underlying2 hy1
 obtain ⟨Ls0, f2, _, ws0⟩ := DataW.trod_string Tryz.underlying9 hy2
 obtain ⟨Le0, f3, _, we0⟩ := DataW.trod_int Tryz.underlying3 hy3
 simp only [List.cons.injEq, and_true] at f0 f1 f2 f3
 obtain rfl := f0
 obtain rfl := f1
 obtain rfl := f2
 obtain rfl := f3
 have j1 := h1
 have lt1 : ∀ x ∈ p1, x.block < W.heap.size := by obtain ⟨m, hm⟩ := j1; exact DataW.trod_lt m _ _ _ hm
 obtain ⟨cc0, cc1, cc2, cc3, yy0, yy1, yy2, yy3, m1, rfl, hd1, hp1, hy0, hy1, hy2, hy3⟩ := open_agg4 Tryz.underlying25 (by kernel_rfl) cells_val (hval 1 25 v1 rfl rfl) h1
 obtain ⟨Lk1, f0, _, wk1⟩ := DataW.trod_int Tryz.underlying3 hy0
 obtain ⟨Ln1, f1, _, wn1⟩ := DataW.trod_int Tryz.underlying2 hy1
 obtain ⟨Ls1, f2, _, ws1⟩ := DataW.trod_string Tryz.underlying9 hy2
 obtain ⟨Le1, f3, _, we1⟩ := DataW.trod_int Tryz.underlying3 hy3
 simp only [List.cons.injEq, and_true] at f0 f1 f2 f3
 obtain rfl := f0
 obtain rfl := f1
 obtain rfl := f2
 obtain rfl := f3
 have j2 := h2
 have lt2 : ∀ x ∈ p2, x.block < W.heap.size := by obtain ⟨m, hm⟩ := j2; exact DataW.trod_lt m _ _ _ hm
 obtain ⟨cc0, cc1, cc2, cc3, yy0, yy1, yy2, yy3, m2, rfl, hd2, hp2, hy0, hy1, hy2, hy3⟩ := open_agg4 Tryz.underlying25 (by kernel_rfl) cells_val (hval 2 25 v2 rfl rfl) h2
 obtain ⟨Lk2, f0, _, wk2⟩ := DataW.trod_int Tryz.underlying3 hy0
 obtain ⟨Ln2, f1, _, wn2⟩ := DataW.trod_int Tryz.underlying2 hy1
 obtain ⟨Ls2, f2, _, ws2⟩ := DataW.trod_string Tryz.underlying9 hy2
 obtain ⟨Le2, f3, _, we2⟩ := DataW.trod_int Tryz.underlying3 hy3
 simp only [List.cons.injEq, and_true] at f0 f1 f2 f3
 obtain rfl := f0
 obtain rfl := f1
 obtain rfl := f2
 obtain rfl := f3
 clear hA0 hval0
 refine (walk Lk0 Ln0 Ls0 Le0 Lk1 Ln1 Ls1 Le1 Lk2 Ln2 Ls2 Le2 W wk0 wn0 ws0 we0 wk1 wn1 ws1 we1 wk2 wn2 ws2 we2 (nm_ofU hL) (tab_ofU hL)).mono fun e W' ⟨he, bel⟩ => ?_
 subst he
 exact ⟨_, rfl, _, _, _, [], _, [], hW, trodAll_mk1 (shut_bool Tryz.underlying4 _), (trodAll_cons_mk (Below.trod laidOut (by kernel_rfl) (of_decide_eq_true (by kernel_rfl)) j0 bel lt0) (trodAll_cons_mk (Below.trod laidOut (by kernel_rfl) (of_decide_eq_true (by kernel_rfl)) j1 bel lt1) (trodAll_cons_mk (Below.trod laidOut (by kernel_rfl) (of_decide_eq_true (by kernel_rfl)) j2 bel lt2) trodAll_mk0))), rfl, Below.frame bel _, fun h => by cases h⟩

theorem laid_met (os : Os) : laidMet Tryz.prog Rows.funcsErrorsRow.laid ((laidWorldU os).forCall (fun _ _ => 0) ⟨#[], #[.agg #[.int .i64 0, .int .i64 0, .string ⟨#[]⟩, .int .i64 0], .agg #[.int .i64 0, .int .i64 0, .string ⟨#[]⟩, .int .i64 0], .agg #[.int .i64 0, .int .i64 0, .string ⟨#[]⟩, .int .i64 0]], []⟩).memory :=
 laidMet_of_run' 8 (by kernel_rfl) (by kernel_rfl)
theorem reads (os : Os) {H : Type} (enc : TypeId × Value → H) : ∃ places, DataW.whole enc Tryz.prog ((laidWorldU os).forCall (fun _ _ => 0) ⟨#[], #[.agg #[.int .i64 0, .int .i64 0, .string ⟨#[]⟩, .int .i64 0], .agg #[.int .i64 0, .int .i64 0, .string ⟨#[]⟩, .int .i64 0], .agg #[.int .i64 0, .int .i64 0, .string ⟨#[]⟩, .int .i64 0]], []⟩).memory Tryz.f4.params.toList Rows.funcsErrorsSpec.vars false (#[.agg #[.int .i64 0, .int .i64 0, .string ⟨#[]⟩, .int .i64 0], .agg #[.int .i64 0, .int .i64 0, .string ⟨#[]⟩, .int .i64 0], .agg #[.int .i64 0, .int .i64 0, .string ⟨#[]⟩, .int .i64 0]] : Array Value).toList 8 = some ([.agg [.lit (.int .i64 0), .lit (.int .i64 0), .lit (.string []), .lit (.int .i64 0)], .agg [.lit (.int .i64 0), .lit (.int .i64 0), .lit (.string []), .lit (.int .i64 0)], .agg [.lit (.int .i64 0), .lit (.int .i64 0), .lit (.string []), .lit (.int .i64 0)]], [], places) :=
 ⟨[], by kernel_rfl⟩

set_option maxRecDepth 100000 in
theorem lifted (os : Os) (started : os.Started) (H : Type) (enc : TypeId × Value → H) (F : Stop.Interp) :
   ReturnsInHanded {} Tryz.checked os 4 .any ((OpenSpec.ofChange Rows.funcsErrorsSpec).preRow enc Tryz.prog Tryz.f4 Rows.funcsErrorsRow.domain false Rows.funcsErrorsRow.laid) (((OpenSpec.ofChange Rows.funcsErrorsSpec).at F).post enc Tryz.prog Tryz.f4 false true false false) := by
 obtain ⟨places, hx⟩ := reads os enc
 refine returnsInHanded_of_row (C := Tryz.checked) (s := OpenSpec.ofChange Rows.funcsErrorsSpec) ownK started (by kernel_rfl) Tryz.func4
   (witness_row_at (enc := enc) (C := Tryz.checked) false (laidWorldU os) #[.agg #[.int .i64 0, .int .i64 0, .string ⟨#[]⟩, .int .i64 0], .agg #[.int .i64 0, .int .i64 0, .string ⟨#[]⟩, .int .i64 0], .agg #[.int .i64 0, .int .i64 0, .string ⟨#[]⟩, .int .i64 0]] rfl (by kernel_rfl) (by kernel_rfl) (by kernel_rfl)
     (OpenSpec.preRow_of_cond 8 hx (by kernel_rfl) (fun k hk => by cases hk) (by kernel_rfl) (by
       rw [MakeChecks.laidMetH_plain _ _ _ (by kernel_rfl)]
       exact laid_met os))) ?_
 intro W base args ds gs before hval hW _ _ _ hL _ _
 exact contract H enc W base args ds gs before hval hW hL

theorem said : Rows.FuncsErrorsSaid :=
 OpenClaim.holds_of_cond 4 Tryz.f4 rfl rfl rfl rfl rfl rfl rfl ⟨rfl, rfl, rfl, rfl, rfl⟩ rfl rfl rfl rfl rfl (by kernel_rfl) Tryz.func4 (by kernel_rfl)
   (of_decide_eq_true (by kernel_rfl)) (by unfold Func.isWrapper; first | (rw [if_pos (by decide +kernel)]; kernel_rfl) | (rw [if_neg (by decide +kernel)]; exact ⟨rfl, rfl⟩))
   (fun os started H enc _ F => by rw [OpenClaim.pre_eq_preRow]; exact lifted os started H enc F)

theorem plain (f : FuncId) (fn : Func) (hf : Tryz.pinned.checked.prog.funcNamed Rows.funcsErrorsRow.func = some f) (hfn : Tryz.pinned.checked.prog.funcs[f]? = some fn) :
   true = Tryz.pinned.checked.prog.looks [] ∧ ∀ (j : Nat) t, fn.params[j]? = some t → Tryz.pinned.checked.prog.wantsStandIn t = false := by
 obtain rfl : f = 4 := Option.some.inj ((show Tryz.prog.funcNamed Rows.funcsErrorsRow.func = some 4 by kernel_rfl).symm.trans hf) |>.symm
 obtain rfl : fn = Tryz.f4 := (Option.some.inj (Tryz.func4.symm.trans hfn)).symm
 refine ⟨by kernel_rfl, fun j t ht => ?_⟩
 rw [Tryz.params4] at ht
 have hm : t ∈ [25, 25, 25] := by simpa using Array.mem_of_getElem? ht
 have hall : ([25, 25, 25].all fun u => !Tryz.prog.wantsStandIn u) = true := by kernel_rfl
 exact (show Tryz.prog.wantsStandIn t = false by simpa using List.all_eq_true.1 hall t hm)

theorem card : Rows.FuncsErrorsCardSaid :=
 Claim7.holds_tied_plain_at .later [] _ _ _ _ said (fun _ h => by cases h) (by kernel_rfl) (fun _ h => by cases h) funcsErrors_row_tie rfl ⟨rfl, rfl⟩ (by kernel_rfl) rfl plain (by kernel_rfl)
end Go.Proofs.YtalejeknigbhjaaGreatDoor.funcsErrors
namespace Go.Proofs.YtalejeknigbhjaaGreatDoor
theorem funcsErrors_card : Rows.FuncsErrorsCardSaid := funcsErrors.card
end Go.Proofs.YtalejeknigbhjaaGreatDoor
