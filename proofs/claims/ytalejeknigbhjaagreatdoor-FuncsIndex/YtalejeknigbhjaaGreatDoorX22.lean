/-
 The regions of FuncsErrors in which allocations float.
-/
import Derived.Test.YtalejeknigbhjaaGreatDoorX20
import Derived.Test.YtalejeknigbhjaaGreatDoorX21
namespace Go.Proofs.YtalejeknigbhjaaGreatDoor
open Go.RowKit
set_option maxHeartbeats 1000000

theorem hx4 {w w' : World} {b : Nat} {x0 x1 x2 x3 : Value} (h : Hid (Blk w b x0 x1 x2 x3)) (e : Ext w w') : Hid (Blk w' b x0 x1 x2 x3) := h.out.ext e
theorem hxB {w w' : World} {v : Value} {l : List Bg} (h : Hid (RdB w.heap.size w v l)) (e : Ext w w') : Hid (RdB w'.heap.size w' v l) := h.out.to (Nat.le_refl _) e
def eaO : Array Oper := #[⟨some 11, .load 25 (.tmp 3), 25, "law.go:40", #[], none⟩, ⟨some 12, .call { callee := .value (.func 13), args := #[.tmp 11], argTypes := #[25] }, 31, "law.go:40", #[⟨0, .data⟩], none⟩, ⟨some 13, .load 25 (.tmp 4), 25, "law.go:40", #[], none⟩, ⟨some 14, .call { callee := .value (.func 13), args := #[.tmp 13], argTypes := #[25] }, 31, "law.go:40", #[⟨2, .data⟩, ⟨1, .chain⟩], none⟩, ⟨some 15, .load 25 (.tmp 5), 25, "law.go:40", #[], none⟩, ⟨some 16, .call { callee := .value (.func 13), args := #[.tmp 15], argTypes := #[25] }, 31, "law.go:40", #[⟨4, .data⟩, ⟨3, .chain⟩], none⟩, ⟨some 17, .buildSlice 22 3 #[(0, .tmp 12), (1, .tmp 14), (2, .tmp 16)], 22, "law.go:40", #[⟨1, .data⟩, ⟨3, .data⟩, ⟨5, .data⟩], none⟩, ⟨some 18, .call { callee := .value (.func 10), args := #[.const (.string ⟨#[73, 70]⟩), .tmp 17], argTypes := #[9, 22] }, 25, "law.go:40", #[⟨6, .data⟩, ⟨5, .chain⟩], none⟩, ⟨some 7, .alloc 25, 0, "law.go:40", #[], none⟩, ⟨none, .store 25 (.tmp 7) (.tmp 18), 0, "law.go:40", #[⟨8, .data⟩, ⟨7, .data⟩, ⟨7, .chain⟩, ⟨0, .phase⟩, ⟨1, .phase⟩, ⟨2, .phase⟩, ⟨3, .phase⟩, ⟨4, .phase⟩, ⟨5, .phase⟩, ⟨6, .phase⟩, ⟨7, .phase⟩, ⟨8, .phase⟩], none⟩]

set_option maxRecDepth 100000 in
theorem ea_5ga {xak xan : Int} {xas : ByteArray} {xae : Int} {xbk xbn : Int} {xbs : ByteArray} {xbe : Int} {xck xcn : Int} {xcs : ByteArray} {xce : Int} {xvk xvn : Int} {xvs : ByteArray} {xve : Int} {W1 : World} {S : World → Prop} {Q : Exit → Act → World → Prop} {u0 u1 u2 u3 u4 u5 u6 u8 u9 u10 u19 u20 u21 u22 u23 u24 u25 u26 u27 u28 u29 u30 u31 u32 u33 u34 u35 u36 u37 u38 u39 u40 u41 u42 u43 u44 u45 u46 u47 u48 u49 u50 u51 u52 u53 u54 u55 u56 u57 u58 u59 u60 u61 u62 : Value} (mkS : Hid (∀ V, Ext W1 V → S V)) (_cI : Hid (∀ V g, Ext W1 V → RdB V.heap.size V (.slice (some ⟨g, 0, none⟩) 3 3) [bgR ⟨xak, xan, xas, xae⟩, bgR ⟨xbk, xbn, xbs, xbe⟩, bgR ⟨xck, xcn, xcs, xce⟩] → Calls Tryz.prog 10 #[.string ⟨#[73, 70]⟩, .slice (some ⟨g, 0, none⟩) 3 3] V fun e w' => e = .returned (.agg #[.int .i64 xvk, .int .i64 xvn, .string xvs, .int .i64 xve]) ∧ Ext V w')) (hdone : ∀ (g1 : Nat) (g2 : Nat) (g3 : Nat) (gs : Nat)  (ga : Nat) (y : World), Hid (Ext W1 y) → Hid (Blk y ga (.int .i64 xvk) (.int .i64 xvn) (.string xvs) (.int .i64 xve)) → Hid (W1.heap.size ≤ ga) → Q .normal { tmps := #[u0, u1, u2, u3, u4, u5, u6, (.pointer (some ⟨ga, 0, none⟩)), u8, u9, u10, (.agg #[.int .i64 xak, .int .i64 xan, .string xas, .int .i64 xae]), (.agg #[.bool false, .int .i64 0, .int .i64 0, .slice (some ⟨g1, 0, none⟩) 1 1]), (.agg #[.int .i64 xbk, .int .i64 xbn, .string xbs, .int .i64 xbe]), (.agg #[.bool false, .int .i64 0, .int .i64 0, .slice (some ⟨g2, 0, none⟩) 1 1]), (.agg #[.int .i64 xck, .int .i64 xcn, .string xcs, .int .i64 xce]), (.agg #[.bool false, .int .i64 0, .int .i64 0, .slice (some ⟨g3, 0, none⟩) 1 1]), (.slice (some ⟨gs, 0, none⟩) 3 3), (.agg #[.int .i64 xvk, .int .i64 xvn, .string xvs, .int .i64 xve]), u19, u20, u21, u22, u23, u24, u25, u26, u27, u28, u29, u30, u31, u32, u33, u34, u35, u36, u37, u38, u39, u40, u41, u42, u43, u44, u45, u46, u47, u48, u49, u50, u51, u52, u53, u54, u55, u56, u57, u58, u59, u60, u61, u62], defers := [] } y) (g1 : Nat) (g2 : Nat) (g3 : Nat) (gs : Nat)  (ga : Nat) (y0 : World) (X : Hid (Ext W1 y0)) (_Fg1 : Hid (Blk y0 g1 (.int .i64 xak) (.int .i64 xan) (.string xas) (.int .i64 xae))) (_Fg2 : Hid (Blk y0 g2 (.int .i64 xbk) (.int .i64 xbn) (.string xbs) (.int .i64 xbe))) (_Fg3 : Hid (Blk y0 g3 (.int .i64 xck) (.int .i64 xcn) (.string xcs) (.int .i64 xce))) (_FS : Hid (RdB y0.heap.size y0 (.slice (some ⟨gs, 0, none⟩) 3 3) [bgR ⟨xak, xan, xas, xae⟩, bgR ⟨xbk, xbn, xbs, xbe⟩, bgR ⟨xck, xcn, xcs, xce⟩])) (Gga : Hid (Blk y0 ga (.int .i64 0) (.int .i64 0) (.string ⟨#[]⟩) (.int .i64 0))) (Nga : Hid (W1.heap.size ≤ ga)) :
   wpBar Tryz.prog .any eaO Q (fun _ => false) S 1 #[true, true, true, true, true, true, true, true, true, false] { tmps := #[u0, u1, u2, u3, u4, u5, u6, (.pointer (some ⟨ga, 0, none⟩)), u8, u9, u10, (.agg #[.int .i64 xak, .int .i64 xan, .string xas, .int .i64 xae]), (.agg #[.bool false, .int .i64 0, .int .i64 0, .slice (some ⟨g1, 0, none⟩) 1 1]), (.agg #[.int .i64 xbk, .int .i64 xbn, .string xbs, .int .i64 xbe]), (.agg #[.bool false, .int .i64 0, .int .i64 0, .slice (some ⟨g2, 0, none⟩) 1 1]), (.agg #[.int .i64 xck, .int .i64 xcn, .string xcs, .int .i64 xce]), (.agg #[.bool false, .int .i64 0, .int .i64 0, .slice (some ⟨g3, 0, none⟩) 1 1]), (.slice (some ⟨gs, 0, none⟩) 3 3), (.agg #[.int .i64 xvk, .int .i64 xvn, .string xvs, .int .i64 xve]), u19, u20, u21, u22, u23, u24, u25, u26, u27, u28, u29, u30, u31, u32, u33, u34, u35, u36, u37, u38, u39, u40, u41, u42, u43, u44, u45, u46, u47, u48, u49, u50, u51, u52, u53, u54, u55, u56, u57, u58, u59, u60, u61, u62], defers := [] } y0 := by
 unfold eaO
 obtain ⟨za, ⟨a0, a1, a2, a3⟩, af0, af1, af2, af3⟩ := Gga.out
 refine bar_one (i := 9) (by kernel_rfl) rfl (fun KK hKK => ?_)
 go_simp
 have EP : Hid (Ext W1 ((((y0.setCell ⟨ga, 0, none⟩ (.int .i64 xvk)).setCell ⟨ga, 1, none⟩ (.int .i64 xvn)).setCell ⟨ga, 2, none⟩ (.string xvs)).setCell ⟨ga, 3, none⟩ (.int .i64 xve))) := (((X.out.setCell (p := ⟨ga, 0, none⟩) Nga.out _).setCell (p := ⟨ga, 1, none⟩) Nga.out _).setCell (p := ⟨ga, 2, none⟩) Nga.out _).setCell (p := ⟨ga, 3, none⟩) Nga.out _
 refine hKK.out _ ((((y0.setCell ⟨ga, 0, none⟩ (.int .i64 xvk)).setCell ⟨ga, 1, none⟩ (.int .i64 xvn)).setCell ⟨ga, 2, none⟩ (.string xvs)).setCell ⟨ga, 3, none⟩ (.int .i64 xve)) (fun _ => mkS.out _ EP.out) ?_
 clear hKK KK za a0 a1 a2 a3 af0 af1 af2 af3
 replace Gga : Hid (Blk ((((y0.setCell ⟨ga, 0, none⟩ (.int .i64 xvk)).setCell ⟨ga, 1, none⟩ (.int .i64 xvn)).setCell ⟨ga, 2, none⟩ (.string xvs)).setCell ⟨ga, 3, none⟩ (.int .i64 xve)) ga (.int .i64 xvk) (.int .i64 xvn) (.string xvs) (.int .i64 xve)) := Gga.out.set _ _ _ _
 replace X := EP
 clear EP
 generalize (((y0.setCell ⟨ga, 0, none⟩ (.int .i64 xvk)).setCell ⟨ga, 1, none⟩ (.int .i64 xvn)).setCell ⟨ga, 2, none⟩ (.string xvs)).setCell ⟨ga, 3, none⟩ (.int .i64 xve) = w2 at *
 rw [show (#[true, true, true, true, true, true, true, true, true, false] : Array Bool).setIfInBounds 9 true = #[true, true, true, true, true, true, true, true, true, true] from rfl]
 refine bar_done (by kernel_rfl) ?_ _
 exact hdone g1 g2 g3 gs  ga w2 X Gga Nga

set_option maxRecDepth 100000 in
theorem ea_5 {xak xan : Int} {xas : ByteArray} {xae : Int} {xbk xbn : Int} {xbs : ByteArray} {xbe : Int} {xck xcn : Int} {xcs : ByteArray} {xce : Int} {xvk xvn : Int} {xvs : ByteArray} {xve : Int} {W1 : World} {S : World → Prop} {Q : Exit → Act → World → Prop} {u0 u1 u2 u3 u4 u5 u6 u7 u8 u9 u10 u19 u20 u21 u22 u23 u24 u25 u26 u27 u28 u29 u30 u31 u32 u33 u34 u35 u36 u37 u38 u39 u40 u41 u42 u43 u44 u45 u46 u47 u48 u49 u50 u51 u52 u53 u54 u55 u56 u57 u58 u59 u60 u61 u62 : Value} (mkS : Hid (∀ V, Ext W1 V → S V)) (cI : Hid (∀ V g, Ext W1 V → RdB V.heap.size V (.slice (some ⟨g, 0, none⟩) 3 3) [bgR ⟨xak, xan, xas, xae⟩, bgR ⟨xbk, xbn, xbs, xbe⟩, bgR ⟨xck, xcn, xcs, xce⟩] → Calls Tryz.prog 10 #[.string ⟨#[73, 70]⟩, .slice (some ⟨g, 0, none⟩) 3 3] V fun e w' => e = .returned (.agg #[.int .i64 xvk, .int .i64 xvn, .string xvs, .int .i64 xve]) ∧ Ext V w')) (hdone : ∀ (g1 : Nat) (g2 : Nat) (g3 : Nat) (gs : Nat)  (ga : Nat) (y : World), Hid (Ext W1 y) → Hid (Blk y ga (.int .i64 xvk) (.int .i64 xvn) (.string xvs) (.int .i64 xve)) → Hid (W1.heap.size ≤ ga) → Q .normal { tmps := #[u0, u1, u2, u3, u4, u5, u6, (.pointer (some ⟨ga, 0, none⟩)), u8, u9, u10, (.agg #[.int .i64 xak, .int .i64 xan, .string xas, .int .i64 xae]), (.agg #[.bool false, .int .i64 0, .int .i64 0, .slice (some ⟨g1, 0, none⟩) 1 1]), (.agg #[.int .i64 xbk, .int .i64 xbn, .string xbs, .int .i64 xbe]), (.agg #[.bool false, .int .i64 0, .int .i64 0, .slice (some ⟨g2, 0, none⟩) 1 1]), (.agg #[.int .i64 xck, .int .i64 xcn, .string xcs, .int .i64 xce]), (.agg #[.bool false, .int .i64 0, .int .i64 0, .slice (some ⟨g3, 0, none⟩) 1 1]), (.slice (some ⟨gs, 0, none⟩) 3 3), (.agg #[.int .i64 xvk, .int .i64 xvn, .string xvs, .int .i64 xve]), u19, u20, u21, u22, u23, u24, u25, u26, u27, u28, u29, u30, u31, u32, u33, u34, u35, u36, u37, u38, u39, u40, u41, u42, u43, u44, u45, u46, u47, u48, u49, u50, u51, u52, u53, u54, u55, u56, u57, u58, u59, u60, u61, u62], defers := [] } y) (g1 : Nat) (g2 : Nat) (g3 : Nat) (gs : Nat)   (y0 : World) (X : Hid (Ext W1 y0)) (Fg1 : Hid (Blk y0 g1 (.int .i64 xak) (.int .i64 xan) (.string xas) (.int .i64 xae))) (Fg2 : Hid (Blk y0 g2 (.int .i64 xbk) (.int .i64 xbn) (.string xbs) (.int .i64 xbe))) (Fg3 : Hid (Blk y0 g3 (.int .i64 xck) (.int .i64 xcn) (.string xcs) (.int .i64 xce))) (FS : Hid (RdB y0.heap.size y0 (.slice (some ⟨gs, 0, none⟩) 3 3) [bgR ⟨xak, xan, xas, xae⟩, bgR ⟨xbk, xbn, xbs, xbe⟩, bgR ⟨xck, xcn, xcs, xce⟩])) :
   wpBar Tryz.prog .any eaO Q (fun _ => false) S 2 #[true, true, true, true, true, true, true, true, false, false] { tmps := #[u0, u1, u2, u3, u4, u5, u6, u7, u8, u9, u10, (.agg #[.int .i64 xak, .int .i64 xan, .string xas, .int .i64 xae]), (.agg #[.bool false, .int .i64 0, .int .i64 0, .slice (some ⟨g1, 0, none⟩) 1 1]), (.agg #[.int .i64 xbk, .int .i64 xbn, .string xbs, .int .i64 xbe]), (.agg #[.bool false, .int .i64 0, .int .i64 0, .slice (some ⟨g2, 0, none⟩) 1 1]), (.agg #[.int .i64 xck, .int .i64 xcn, .string xcs, .int .i64 xce]), (.agg #[.bool false, .int .i64 0, .int .i64 0, .slice (some ⟨g3, 0, none⟩) 1 1]), (.slice (some ⟨gs, 0, none⟩) 3 3), (.agg #[.int .i64 xvk, .int .i64 xvn, .string xvs, .int .i64 xve]), u19, u20, u21, u22, u23, u24, u25, u26, u27, u28, u29, u30, u31, u32, u33, u34, u35, u36, u37, u38, u39, u40, u41, u42, u43, u44, u45, u46, u47, u48, u49, u50, u51, u52, u53, u54, u55, u56, u57, u58, u59, u60, u61, u62], defers := [] } y0 := by
 unfold eaO
 refine bar_one (i := 8) (by kernel_rfl) rfl (fun KK hKK => ?_)
 go_simp
 refine hKK.out _ _ (fun _ => mkS.out _ (X.out.alloc _)) ?_
 clear hKK KK
 obtain ⟨y1, hya⟩ : ∃ ya, World.alloc y0 (.cells #[.int .i64 0, .int .i64 0, .string ⟨#[]⟩, .int .i64 0] 25) = ya := ⟨_, rfl⟩
 obtain ⟨ga, hga⟩ : ∃ g, y0.heap.size = g := ⟨_, rfl⟩
 have E : Ext y0 y1 := by rw [← hya]; exact (Ext.refl _).alloc _
 have Gga : Hid (Blk y1 ga (.int .i64 0) (.int .i64 0) (.string ⟨#[]⟩) (.int .i64 0)) := by rw [← hya, ← hga]; exact blk_top rfl (Ext.refl _)
 have Nga : Hid (W1.heap.size ≤ ga) := by show _ ≤ _; rw [← hga]; exact X.out.sz
 rw [hya, hga]
 replace X : Hid (Ext W1 y1) := X.out.trans E
 replace Fg1 := hx4 Fg1 E
 replace Fg2 := hx4 Fg2 E
 replace Fg3 := hx4 Fg3 E
 replace FS := hxB FS E
 clear E hya hga
 rw [show (#[true, true, true, true, true, true, true, true, false, false] : Array Bool).setIfInBounds 8 true = #[true, true, true, true, true, true, true, true, true, false] from rfl]
 exact ea_5ga mkS cI hdone g1 g2 g3 gs  ga y1 X Fg1 Fg2 Fg3 FS Gga Nga

set_option maxRecDepth 100000 in
theorem ea_4ga {xak xan : Int} {xas : ByteArray} {xae : Int} {xbk xbn : Int} {xbs : ByteArray} {xbe : Int} {xck xcn : Int} {xcs : ByteArray} {xce : Int} {xvk xvn : Int} {xvs : ByteArray} {xve : Int} {W1 : World} {S : World → Prop} {Q : Exit → Act → World → Prop} {u0 u1 u2 u3 u4 u5 u6 u8 u9 u10 u18 u19 u20 u21 u22 u23 u24 u25 u26 u27 u28 u29 u30 u31 u32 u33 u34 u35 u36 u37 u38 u39 u40 u41 u42 u43 u44 u45 u46 u47 u48 u49 u50 u51 u52 u53 u54 u55 u56 u57 u58 u59 u60 u61 u62 : Value} (mkS : Hid (∀ V, Ext W1 V → S V)) (cI : Hid (∀ V g, Ext W1 V → RdB V.heap.size V (.slice (some ⟨g, 0, none⟩) 3 3) [bgR ⟨xak, xan, xas, xae⟩, bgR ⟨xbk, xbn, xbs, xbe⟩, bgR ⟨xck, xcn, xcs, xce⟩] → Calls Tryz.prog 10 #[.string ⟨#[73, 70]⟩, .slice (some ⟨g, 0, none⟩) 3 3] V fun e w' => e = .returned (.agg #[.int .i64 xvk, .int .i64 xvn, .string xvs, .int .i64 xve]) ∧ Ext V w')) (hdone : ∀ (g1 : Nat) (g2 : Nat) (g3 : Nat) (gs : Nat)  (ga : Nat) (y : World), Hid (Ext W1 y) → Hid (Blk y ga (.int .i64 xvk) (.int .i64 xvn) (.string xvs) (.int .i64 xve)) → Hid (W1.heap.size ≤ ga) → Q .normal { tmps := #[u0, u1, u2, u3, u4, u5, u6, (.pointer (some ⟨ga, 0, none⟩)), u8, u9, u10, (.agg #[.int .i64 xak, .int .i64 xan, .string xas, .int .i64 xae]), (.agg #[.bool false, .int .i64 0, .int .i64 0, .slice (some ⟨g1, 0, none⟩) 1 1]), (.agg #[.int .i64 xbk, .int .i64 xbn, .string xbs, .int .i64 xbe]), (.agg #[.bool false, .int .i64 0, .int .i64 0, .slice (some ⟨g2, 0, none⟩) 1 1]), (.agg #[.int .i64 xck, .int .i64 xcn, .string xcs, .int .i64 xce]), (.agg #[.bool false, .int .i64 0, .int .i64 0, .slice (some ⟨g3, 0, none⟩) 1 1]), (.slice (some ⟨gs, 0, none⟩) 3 3), (.agg #[.int .i64 xvk, .int .i64 xvn, .string xvs, .int .i64 xve]), u19, u20, u21, u22, u23, u24, u25, u26, u27, u28, u29, u30, u31, u32, u33, u34, u35, u36, u37, u38, u39, u40, u41, u42, u43, u44, u45, u46, u47, u48, u49, u50, u51, u52, u53, u54, u55, u56, u57, u58, u59, u60, u61, u62], defers := [] } y) (g1 : Nat) (g2 : Nat) (g3 : Nat) (gs : Nat) (ga : Nat) (y0 : World) (X : Hid (Ext W1 y0)) (Fg1 : Hid (Blk y0 g1 (.int .i64 xak) (.int .i64 xan) (.string xas) (.int .i64 xae))) (Fg2 : Hid (Blk y0 g2 (.int .i64 xbk) (.int .i64 xbn) (.string xbs) (.int .i64 xbe))) (Fg3 : Hid (Blk y0 g3 (.int .i64 xck) (.int .i64 xcn) (.string xcs) (.int .i64 xce))) (FS : Hid (RdB y0.heap.size y0 (.slice (some ⟨gs, 0, none⟩) 3 3) [bgR ⟨xak, xan, xas, xae⟩, bgR ⟨xbk, xbn, xbs, xbe⟩, bgR ⟨xck, xcn, xcs, xce⟩])) (Gga : Hid (Blk y0 ga (.int .i64 0) (.int .i64 0) (.string ⟨#[]⟩) (.int .i64 0))) (Nga : Hid (W1.heap.size ≤ ga)) :
   wpBar Tryz.prog .any eaO Q (fun _ => false) S 2 #[true, true, true, true, true, true, true, false, true, false] { tmps := #[u0, u1, u2, u3, u4, u5, u6, (.pointer (some ⟨ga, 0, none⟩)), u8, u9, u10, (.agg #[.int .i64 xak, .int .i64 xan, .string xas, .int .i64 xae]), (.agg #[.bool false, .int .i64 0, .int .i64 0, .slice (some ⟨g1, 0, none⟩) 1 1]), (.agg #[.int .i64 xbk, .int .i64 xbn, .string xbs, .int .i64 xbe]), (.agg #[.bool false, .int .i64 0, .int .i64 0, .slice (some ⟨g2, 0, none⟩) 1 1]), (.agg #[.int .i64 xck, .int .i64 xcn, .string xcs, .int .i64 xce]), (.agg #[.bool false, .int .i64 0, .int .i64 0, .slice (some ⟨g3, 0, none⟩) 1 1]), (.slice (some ⟨gs, 0, none⟩) 3 3), u18, u19, u20, u21, u22, u23, u24, u25, u26, u27, u28, u29, u30, u31, u32, u33, u34, u35, u36, u37, u38, u39, u40, u41, u42, u43, u44, u45, u46, u47, u48, u49, u50, u51, u52, u53, u54, u55, u56, u57, u58, u59, u60, u61, u62], defers := [] } y0 := by
 unfold eaO
 refine bar_one (i := 7) (by kernel_rfl) rfl (fun KK hKK => ?_)
 go_simp
 go_wp2_with (go_at_call 10; refine Calls.mono (cI.out _ _ X.out FS.out) ?_; rintro e y1 ⟨rfl, E⟩)
 replace X : Hid (Ext W1 y1) := X.out.trans E
 refine hKK.out _ _ (fun _ => mkS.out _ X.out) ?_
 clear hKK KK
 replace Fg1 := hx4 Fg1 E
 replace Fg2 := hx4 Fg2 E
 replace Fg3 := hx4 Fg3 E
 replace FS := hxB FS E
 replace Gga := hx4 Gga E
 clear E
 rw [show (#[true, true, true, true, true, true, true, false, true, false] : Array Bool).setIfInBounds 7 true = #[true, true, true, true, true, true, true, true, true, false] from rfl]
 exact ea_5ga mkS cI hdone g1 g2 g3 gs  ga y1 X Fg1 Fg2 Fg3 FS Gga Nga

set_option maxRecDepth 100000 in
theorem ea_4 {xak xan : Int} {xas : ByteArray} {xae : Int} {xbk xbn : Int} {xbs : ByteArray} {xbe : Int} {xck xcn : Int} {xcs : ByteArray} {xce : Int} {xvk xvn : Int} {xvs : ByteArray} {xve : Int} {W1 : World} {S : World → Prop} {Q : Exit → Act → World → Prop} {u0 u1 u2 u3 u4 u5 u6 u7 u8 u9 u10 u18 u19 u20 u21 u22 u23 u24 u25 u26 u27 u28 u29 u30 u31 u32 u33 u34 u35 u36 u37 u38 u39 u40 u41 u42 u43 u44 u45 u46 u47 u48 u49 u50 u51 u52 u53 u54 u55 u56 u57 u58 u59 u60 u61 u62 : Value} (mkS : Hid (∀ V, Ext W1 V → S V)) (cI : Hid (∀ V g, Ext W1 V → RdB V.heap.size V (.slice (some ⟨g, 0, none⟩) 3 3) [bgR ⟨xak, xan, xas, xae⟩, bgR ⟨xbk, xbn, xbs, xbe⟩, bgR ⟨xck, xcn, xcs, xce⟩] → Calls Tryz.prog 10 #[.string ⟨#[73, 70]⟩, .slice (some ⟨g, 0, none⟩) 3 3] V fun e w' => e = .returned (.agg #[.int .i64 xvk, .int .i64 xvn, .string xvs, .int .i64 xve]) ∧ Ext V w')) (hdone : ∀ (g1 : Nat) (g2 : Nat) (g3 : Nat) (gs : Nat)  (ga : Nat) (y : World), Hid (Ext W1 y) → Hid (Blk y ga (.int .i64 xvk) (.int .i64 xvn) (.string xvs) (.int .i64 xve)) → Hid (W1.heap.size ≤ ga) → Q .normal { tmps := #[u0, u1, u2, u3, u4, u5, u6, (.pointer (some ⟨ga, 0, none⟩)), u8, u9, u10, (.agg #[.int .i64 xak, .int .i64 xan, .string xas, .int .i64 xae]), (.agg #[.bool false, .int .i64 0, .int .i64 0, .slice (some ⟨g1, 0, none⟩) 1 1]), (.agg #[.int .i64 xbk, .int .i64 xbn, .string xbs, .int .i64 xbe]), (.agg #[.bool false, .int .i64 0, .int .i64 0, .slice (some ⟨g2, 0, none⟩) 1 1]), (.agg #[.int .i64 xck, .int .i64 xcn, .string xcs, .int .i64 xce]), (.agg #[.bool false, .int .i64 0, .int .i64 0, .slice (some ⟨g3, 0, none⟩) 1 1]), (.slice (some ⟨gs, 0, none⟩) 3 3), (.agg #[.int .i64 xvk, .int .i64 xvn, .string xvs, .int .i64 xve]), u19, u20, u21, u22, u23, u24, u25, u26, u27, u28, u29, u30, u31, u32, u33, u34, u35, u36, u37, u38, u39, u40, u41, u42, u43, u44, u45, u46, u47, u48, u49, u50, u51, u52, u53, u54, u55, u56, u57, u58, u59, u60, u61, u62], defers := [] } y) (g1 : Nat) (g2 : Nat) (g3 : Nat) (gs : Nat)  (y0 : World) (X : Hid (Ext W1 y0)) (Fg1 : Hid (Blk y0 g1 (.int .i64 xak) (.int .i64 xan) (.string xas) (.int .i64 xae))) (Fg2 : Hid (Blk y0 g2 (.int .i64 xbk) (.int .i64 xbn) (.string xbs) (.int .i64 xbe))) (Fg3 : Hid (Blk y0 g3 (.int .i64 xck) (.int .i64 xcn) (.string xcs) (.int .i64 xce))) (FS : Hid (RdB y0.heap.size y0 (.slice (some ⟨gs, 0, none⟩) 3 3) [bgR ⟨xak, xan, xas, xae⟩, bgR ⟨xbk, xbn, xbs, xbe⟩, bgR ⟨xck, xcn, xcs, xce⟩])) :
   wpBar Tryz.prog .any eaO Q (fun _ => false) S 3 #[true, true, true, true, true, true, true, false, false, false] { tmps := #[u0, u1, u2, u3, u4, u5, u6, u7, u8, u9, u10, (.agg #[.int .i64 xak, .int .i64 xan, .string xas, .int .i64 xae]), (.agg #[.bool false, .int .i64 0, .int .i64 0, .slice (some ⟨g1, 0, none⟩) 1 1]), (.agg #[.int .i64 xbk, .int .i64 xbn, .string xbs, .int .i64 xbe]), (.agg #[.bool false, .int .i64 0, .int .i64 0, .slice (some ⟨g2, 0, none⟩) 1 1]), (.agg #[.int .i64 xck, .int .i64 xcn, .string xcs, .int .i64 xce]), (.agg #[.bool false, .int .i64 0, .int .i64 0, .slice (some ⟨g3, 0, none⟩) 1 1]), (.slice (some ⟨gs, 0, none⟩) 3 3), u18, u19, u20, u21, u22, u23, u24, u25, u26, u27, u28, u29, u30, u31, u32, u33, u34, u35, u36, u37, u38, u39, u40, u41, u42, u43, u44, u45, u46, u47, u48, u49, u50, u51, u52, u53, u54, u55, u56, u57, u58, u59, u60, u61, u62], defers := [] } y0 := by
 unfold eaO
 refine bar_list (rs := [7, 8]) (by kernel_rfl) (by simp) ?_
 refine Bars.cons rfl (fun KK hKK => ?_) ?_
 · go_simp
   go_wp2_with (go_at_call 10; refine Calls.mono (cI.out _ _ X.out FS.out) ?_; rintro e y1 ⟨rfl, E⟩)
   replace X : Hid (Ext W1 y1) := X.out.trans E
   refine hKK.out _ _ (fun _ => mkS.out _ X.out) ?_
   clear hKK KK
   replace Fg1 := hx4 Fg1 E
   replace Fg2 := hx4 Fg2 E
   replace Fg3 := hx4 Fg3 E
   replace FS := hxB FS E
   clear E
   rw [show (#[true, true, true, true, true, true, true, false, false, false] : Array Bool).setIfInBounds 7 true = #[true, true, true, true, true, true, true, true, false, false] from rfl]
   exact ea_5 mkS cI hdone g1 g2 g3 gs   y1 X Fg1 Fg2 Fg3 FS
 · refine Bars.cons rfl (fun KK hKK => ?_) ?_
   · go_simp
     refine hKK.out _ _ (fun _ => mkS.out _ (X.out.alloc _)) ?_
     clear hKK KK
     obtain ⟨y1, hya⟩ : ∃ ya, World.alloc y0 (.cells #[.int .i64 0, .int .i64 0, .string ⟨#[]⟩, .int .i64 0] 25) = ya := ⟨_, rfl⟩
     obtain ⟨ga, hga⟩ : ∃ g, y0.heap.size = g := ⟨_, rfl⟩
     have E : Ext y0 y1 := by rw [← hya]; exact (Ext.refl _).alloc _
     have Gga : Hid (Blk y1 ga (.int .i64 0) (.int .i64 0) (.string ⟨#[]⟩) (.int .i64 0)) := by rw [← hya, ← hga]; exact blk_top rfl (Ext.refl _)
     have Nga : Hid (W1.heap.size ≤ ga) := by show _ ≤ _; rw [← hga]; exact X.out.sz
     rw [hya, hga]
     replace X : Hid (Ext W1 y1) := X.out.trans E
     replace Fg1 := hx4 Fg1 E
     replace Fg2 := hx4 Fg2 E
     replace Fg3 := hx4 Fg3 E
     replace FS := hxB FS E
     clear E hya hga
     rw [show (#[true, true, true, true, true, true, true, false, false, false] : Array Bool).setIfInBounds 8 true = #[true, true, true, true, true, true, true, false, true, false] from rfl]
     exact ea_4ga mkS cI hdone g1 g2 g3 gs ga y1 X Fg1 Fg2 Fg3 FS Gga Nga
   · exact Bars.nil

set_option maxRecDepth 100000 in
theorem ea_3ga {xak xan : Int} {xas : ByteArray} {xae : Int} {xbk xbn : Int} {xbs : ByteArray} {xbe : Int} {xck xcn : Int} {xcs : ByteArray} {xce : Int} {xvk xvn : Int} {xvs : ByteArray} {xve : Int} {W1 : World} {S : World → Prop} {Q : Exit → Act → World → Prop} {u0 u1 u2 u3 u4 u5 u6 u8 u9 u10 u17 u18 u19 u20 u21 u22 u23 u24 u25 u26 u27 u28 u29 u30 u31 u32 u33 u34 u35 u36 u37 u38 u39 u40 u41 u42 u43 u44 u45 u46 u47 u48 u49 u50 u51 u52 u53 u54 u55 u56 u57 u58 u59 u60 u61 u62 : Value} (mkS : Hid (∀ V, Ext W1 V → S V)) (cI : Hid (∀ V g, Ext W1 V → RdB V.heap.size V (.slice (some ⟨g, 0, none⟩) 3 3) [bgR ⟨xak, xan, xas, xae⟩, bgR ⟨xbk, xbn, xbs, xbe⟩, bgR ⟨xck, xcn, xcs, xce⟩] → Calls Tryz.prog 10 #[.string ⟨#[73, 70]⟩, .slice (some ⟨g, 0, none⟩) 3 3] V fun e w' => e = .returned (.agg #[.int .i64 xvk, .int .i64 xvn, .string xvs, .int .i64 xve]) ∧ Ext V w')) (hdone : ∀ (g1 : Nat) (g2 : Nat) (g3 : Nat) (gs : Nat)  (ga : Nat) (y : World), Hid (Ext W1 y) → Hid (Blk y ga (.int .i64 xvk) (.int .i64 xvn) (.string xvs) (.int .i64 xve)) → Hid (W1.heap.size ≤ ga) → Q .normal { tmps := #[u0, u1, u2, u3, u4, u5, u6, (.pointer (some ⟨ga, 0, none⟩)), u8, u9, u10, (.agg #[.int .i64 xak, .int .i64 xan, .string xas, .int .i64 xae]), (.agg #[.bool false, .int .i64 0, .int .i64 0, .slice (some ⟨g1, 0, none⟩) 1 1]), (.agg #[.int .i64 xbk, .int .i64 xbn, .string xbs, .int .i64 xbe]), (.agg #[.bool false, .int .i64 0, .int .i64 0, .slice (some ⟨g2, 0, none⟩) 1 1]), (.agg #[.int .i64 xck, .int .i64 xcn, .string xcs, .int .i64 xce]), (.agg #[.bool false, .int .i64 0, .int .i64 0, .slice (some ⟨g3, 0, none⟩) 1 1]), (.slice (some ⟨gs, 0, none⟩) 3 3), (.agg #[.int .i64 xvk, .int .i64 xvn, .string xvs, .int .i64 xve]), u19, u20, u21, u22, u23, u24, u25, u26, u27, u28, u29, u30, u31, u32, u33, u34, u35, u36, u37, u38, u39, u40, u41, u42, u43, u44, u45, u46, u47, u48, u49, u50, u51, u52, u53, u54, u55, u56, u57, u58, u59, u60, u61, u62], defers := [] } y) (g1 : Nat) (g2 : Nat) (g3 : Nat) (ga : Nat) (y0 : World) (X : Hid (Ext W1 y0)) (Fg1 : Hid (Blk y0 g1 (.int .i64 xak) (.int .i64 xan) (.string xas) (.int .i64 xae))) (Fg2 : Hid (Blk y0 g2 (.int .i64 xbk) (.int .i64 xbn) (.string xbs) (.int .i64 xbe))) (Fg3 : Hid (Blk y0 g3 (.int .i64 xck) (.int .i64 xcn) (.string xcs) (.int .i64 xce))) (Gga : Hid (Blk y0 ga (.int .i64 0) (.int .i64 0) (.string ⟨#[]⟩) (.int .i64 0))) (Nga : Hid (W1.heap.size ≤ ga)) :
   wpBar Tryz.prog .any eaO Q (fun _ => false) S 3 #[true, true, true, true, true, true, false, false, true, false] { tmps := #[u0, u1, u2, u3, u4, u5, u6, (.pointer (some ⟨ga, 0, none⟩)), u8, u9, u10, (.agg #[.int .i64 xak, .int .i64 xan, .string xas, .int .i64 xae]), (.agg #[.bool false, .int .i64 0, .int .i64 0, .slice (some ⟨g1, 0, none⟩) 1 1]), (.agg #[.int .i64 xbk, .int .i64 xbn, .string xbs, .int .i64 xbe]), (.agg #[.bool false, .int .i64 0, .int .i64 0, .slice (some ⟨g2, 0, none⟩) 1 1]), (.agg #[.int .i64 xck, .int .i64 xcn, .string xcs, .int .i64 xce]), (.agg #[.bool false, .int .i64 0, .int .i64 0, .slice (some ⟨g3, 0, none⟩) 1 1]), u17, u18, u19, u20, u21, u22, u23, u24, u25, u26, u27, u28, u29, u30, u31, u32, u33, u34, u35, u36, u37, u38, u39, u40, u41, u42, u43, u44, u45, u46, u47, u48, u49, u50, u51, u52, u53, u54, u55, u56, u57, u58, u59, u60, u61, u62], defers := [] } y0 := by
 unfold eaO
 refine bar_one (i := 6) (by kernel_rfl) rfl (fun KK hKK => ?_)
 go_simp
 refine hKK.out _ _ (fun _ => mkS.out _ (X.out.alloc _)) ?_
 clear hKK KK
 obtain ⟨y1, hya⟩ : ∃ ya, World.alloc y0 (.cells #[.bool false, .int .i64 0, .int .i64 0, .slice (some ⟨g1, 0, none⟩) 1 1, .bool false, .int .i64 0, .int .i64 0, .slice (some ⟨g2, 0, none⟩) 1 1, .bool false, .int .i64 0, .int .i64 0, .slice (some ⟨g3, 0, none⟩) 1 1] 31) = ya := ⟨_, rfl⟩
 obtain ⟨gs, hga⟩ : ∃ g, y0.heap.size = g := ⟨_, rfl⟩
 have E : Ext y0 y1 := by rw [← hya]; exact (Ext.refl _).alloc _
 have FS : Hid (RdB y1.heap.size y1 (.slice (some ⟨gs, 0, none⟩) 3 3) [bgR ⟨xak, xan, xas, xae⟩, bgR ⟨xbk, xbn, xbs, xbe⟩, bgR ⟨xck, xcn, xcs, xce⟩]) := by rw [← hya, ← hga]; exact args_3 rfl (Ext.refl _) (r0 := ⟨xak, xan, xas, xae⟩) (r1 := ⟨xbk, xbn, xbs, xbe⟩) (r2 := ⟨xck, xcn, xcs, xce⟩) Fg1.out Fg2.out Fg3.out
 rw [hya, hga]
 replace X : Hid (Ext W1 y1) := X.out.trans E
 replace Fg1 := hx4 Fg1 E
 replace Fg2 := hx4 Fg2 E
 replace Fg3 := hx4 Fg3 E
 replace Gga := hx4 Gga E
 clear E hya hga
 rw [show (#[true, true, true, true, true, true, false, false, true, false] : Array Bool).setIfInBounds 6 true = #[true, true, true, true, true, true, true, false, true, false] from rfl]
 exact ea_4ga mkS cI hdone g1 g2 g3 gs ga y1 X Fg1 Fg2 Fg3 FS Gga Nga

set_option maxRecDepth 100000 in
theorem ea_3 {xak xan : Int} {xas : ByteArray} {xae : Int} {xbk xbn : Int} {xbs : ByteArray} {xbe : Int} {xck xcn : Int} {xcs : ByteArray} {xce : Int} {xvk xvn : Int} {xvs : ByteArray} {xve : Int} {W1 : World} {S : World → Prop} {Q : Exit → Act → World → Prop} {u0 u1 u2 u3 u4 u5 u6 u7 u8 u9 u10 u17 u18 u19 u20 u21 u22 u23 u24 u25 u26 u27 u28 u29 u30 u31 u32 u33 u34 u35 u36 u37 u38 u39 u40 u41 u42 u43 u44 u45 u46 u47 u48 u49 u50 u51 u52 u53 u54 u55 u56 u57 u58 u59 u60 u61 u62 : Value} (mkS : Hid (∀ V, Ext W1 V → S V)) (cI : Hid (∀ V g, Ext W1 V → RdB V.heap.size V (.slice (some ⟨g, 0, none⟩) 3 3) [bgR ⟨xak, xan, xas, xae⟩, bgR ⟨xbk, xbn, xbs, xbe⟩, bgR ⟨xck, xcn, xcs, xce⟩] → Calls Tryz.prog 10 #[.string ⟨#[73, 70]⟩, .slice (some ⟨g, 0, none⟩) 3 3] V fun e w' => e = .returned (.agg #[.int .i64 xvk, .int .i64 xvn, .string xvs, .int .i64 xve]) ∧ Ext V w')) (hdone : ∀ (g1 : Nat) (g2 : Nat) (g3 : Nat) (gs : Nat)  (ga : Nat) (y : World), Hid (Ext W1 y) → Hid (Blk y ga (.int .i64 xvk) (.int .i64 xvn) (.string xvs) (.int .i64 xve)) → Hid (W1.heap.size ≤ ga) → Q .normal { tmps := #[u0, u1, u2, u3, u4, u5, u6, (.pointer (some ⟨ga, 0, none⟩)), u8, u9, u10, (.agg #[.int .i64 xak, .int .i64 xan, .string xas, .int .i64 xae]), (.agg #[.bool false, .int .i64 0, .int .i64 0, .slice (some ⟨g1, 0, none⟩) 1 1]), (.agg #[.int .i64 xbk, .int .i64 xbn, .string xbs, .int .i64 xbe]), (.agg #[.bool false, .int .i64 0, .int .i64 0, .slice (some ⟨g2, 0, none⟩) 1 1]), (.agg #[.int .i64 xck, .int .i64 xcn, .string xcs, .int .i64 xce]), (.agg #[.bool false, .int .i64 0, .int .i64 0, .slice (some ⟨g3, 0, none⟩) 1 1]), (.slice (some ⟨gs, 0, none⟩) 3 3), (.agg #[.int .i64 xvk, .int .i64 xvn, .string xvs, .int .i64 xve]), u19, u20, u21, u22, u23, u24, u25, u26, u27, u28, u29, u30, u31, u32, u33, u34, u35, u36, u37, u38, u39, u40, u41, u42, u43, u44, u45, u46, u47, u48, u49, u50, u51, u52, u53, u54, u55, u56, u57, u58, u59, u60, u61, u62], defers := [] } y) (g1 : Nat) (g2 : Nat) (g3 : Nat)  (y0 : World) (X : Hid (Ext W1 y0)) (Fg1 : Hid (Blk y0 g1 (.int .i64 xak) (.int .i64 xan) (.string xas) (.int .i64 xae))) (Fg2 : Hid (Blk y0 g2 (.int .i64 xbk) (.int .i64 xbn) (.string xbs) (.int .i64 xbe))) (Fg3 : Hid (Blk y0 g3 (.int .i64 xck) (.int .i64 xcn) (.string xcs) (.int .i64 xce))) :
   wpBar Tryz.prog .any eaO Q (fun _ => false) S 4 #[true, true, true, true, true, true, false, false, false, false] { tmps := #[u0, u1, u2, u3, u4, u5, u6, u7, u8, u9, u10, (.agg #[.int .i64 xak, .int .i64 xan, .string xas, .int .i64 xae]), (.agg #[.bool false, .int .i64 0, .int .i64 0, .slice (some ⟨g1, 0, none⟩) 1 1]), (.agg #[.int .i64 xbk, .int .i64 xbn, .string xbs, .int .i64 xbe]), (.agg #[.bool false, .int .i64 0, .int .i64 0, .slice (some ⟨g2, 0, none⟩) 1 1]), (.agg #[.int .i64 xck, .int .i64 xcn, .string xcs, .int .i64 xce]), (.agg #[.bool false, .int .i64 0, .int .i64 0, .slice (some ⟨g3, 0, none⟩) 1 1]), u17, u18, u19, u20, u21, u22, u23, u24, u25, u26, u27, u28, u29, u30, u31, u32, u33, u34, u35, u36, u37, u38, u39, u40, u41, u42, u43, u44, u45, u46, u47, u48, u49, u50, u51, u52, u53, u54, u55, u56, u57, u58, u59, u60, u61, u62], defers := [] } y0 := by
 unfold eaO
 refine bar_list (rs := [6, 8]) (by kernel_rfl) (by simp) ?_
 refine Bars.cons rfl (fun KK hKK => ?_) ?_
 · go_simp
   refine hKK.out _ _ (fun _ => mkS.out _ (X.out.alloc _)) ?_
   clear hKK KK
   obtain ⟨y1, hya⟩ : ∃ ya, World.alloc y0 (.cells #[.bool false, .int .i64 0, .int .i64 0, .slice (some ⟨g1, 0, none⟩) 1 1, .bool false, .int .i64 0, .int .i64 0, .slice (some ⟨g2, 0, none⟩) 1 1, .bool false, .int .i64 0, .int .i64 0, .slice (some ⟨g3, 0, none⟩) 1 1] 31) = ya := ⟨_, rfl⟩
   obtain ⟨gs, hga⟩ : ∃ g, y0.heap.size = g := ⟨_, rfl⟩
   have E : Ext y0 y1 := by rw [← hya]; exact (Ext.refl _).alloc _
   have FS : Hid (RdB y1.heap.size y1 (.slice (some ⟨gs, 0, none⟩) 3 3) [bgR ⟨xak, xan, xas, xae⟩, bgR ⟨xbk, xbn, xbs, xbe⟩, bgR ⟨xck, xcn, xcs, xce⟩]) := by rw [← hya, ← hga]; exact args_3 rfl (Ext.refl _) (r0 := ⟨xak, xan, xas, xae⟩) (r1 := ⟨xbk, xbn, xbs, xbe⟩) (r2 := ⟨xck, xcn, xcs, xce⟩) Fg1.out Fg2.out Fg3.out
   rw [hya, hga]
   replace X : Hid (Ext W1 y1) := X.out.trans E
   replace Fg1 := hx4 Fg1 E
   replace Fg2 := hx4 Fg2 E
   replace Fg3 := hx4 Fg3 E
   clear E hya hga
   rw [show (#[true, true, true, true, true, true, false, false, false, false] : Array Bool).setIfInBounds 6 true = #[true, true, true, true, true, true, true, false, false, false] from rfl]
   exact ea_4 mkS cI hdone g1 g2 g3 gs  y1 X Fg1 Fg2 Fg3 FS
 · refine Bars.cons rfl (fun KK hKK => ?_) ?_
   · go_simp
     refine hKK.out _ _ (fun _ => mkS.out _ (X.out.alloc _)) ?_
     clear hKK KK
     obtain ⟨y1, hya⟩ : ∃ ya, World.alloc y0 (.cells #[.int .i64 0, .int .i64 0, .string ⟨#[]⟩, .int .i64 0] 25) = ya := ⟨_, rfl⟩
     obtain ⟨ga, hga⟩ : ∃ g, y0.heap.size = g := ⟨_, rfl⟩
     have E : Ext y0 y1 := by rw [← hya]; exact (Ext.refl _).alloc _
     have Gga : Hid (Blk y1 ga (.int .i64 0) (.int .i64 0) (.string ⟨#[]⟩) (.int .i64 0)) := by rw [← hya, ← hga]; exact blk_top rfl (Ext.refl _)
     have Nga : Hid (W1.heap.size ≤ ga) := by show _ ≤ _; rw [← hga]; exact X.out.sz
     rw [hya, hga]
     replace X : Hid (Ext W1 y1) := X.out.trans E
     replace Fg1 := hx4 Fg1 E
     replace Fg2 := hx4 Fg2 E
     replace Fg3 := hx4 Fg3 E
     clear E hya hga
     rw [show (#[true, true, true, true, true, true, false, false, false, false] : Array Bool).setIfInBounds 8 true = #[true, true, true, true, true, true, false, false, true, false] from rfl]
     exact ea_3ga mkS cI hdone g1 g2 g3 ga y1 X Fg1 Fg2 Fg3 Gga Nga
   · exact Bars.nil

set_option maxRecDepth 100000 in
theorem ea_2ga {xak xan : Int} {xas : ByteArray} {xae : Int} {xbk xbn : Int} {xbs : ByteArray} {xbe : Int} {xck xcn : Int} {xcs : ByteArray} {xce : Int} {xvk xvn : Int} {xvs : ByteArray} {xve : Int} {W1 : World} {S : World → Prop} {Q : Exit → Act → World → Prop} {u0 u1 u2 u3 u4 u5 u6 u8 u9 u10 u16 u17 u18 u19 u20 u21 u22 u23 u24 u25 u26 u27 u28 u29 u30 u31 u32 u33 u34 u35 u36 u37 u38 u39 u40 u41 u42 u43 u44 u45 u46 u47 u48 u49 u50 u51 u52 u53 u54 u55 u56 u57 u58 u59 u60 u61 u62 : Value} (mkS : Hid (∀ V, Ext W1 V → S V)) (cI : Hid (∀ V g, Ext W1 V → RdB V.heap.size V (.slice (some ⟨g, 0, none⟩) 3 3) [bgR ⟨xak, xan, xas, xae⟩, bgR ⟨xbk, xbn, xbs, xbe⟩, bgR ⟨xck, xcn, xcs, xce⟩] → Calls Tryz.prog 10 #[.string ⟨#[73, 70]⟩, .slice (some ⟨g, 0, none⟩) 3 3] V fun e w' => e = .returned (.agg #[.int .i64 xvk, .int .i64 xvn, .string xvs, .int .i64 xve]) ∧ Ext V w')) (hdone : ∀ (g1 : Nat) (g2 : Nat) (g3 : Nat) (gs : Nat)  (ga : Nat) (y : World), Hid (Ext W1 y) → Hid (Blk y ga (.int .i64 xvk) (.int .i64 xvn) (.string xvs) (.int .i64 xve)) → Hid (W1.heap.size ≤ ga) → Q .normal { tmps := #[u0, u1, u2, u3, u4, u5, u6, (.pointer (some ⟨ga, 0, none⟩)), u8, u9, u10, (.agg #[.int .i64 xak, .int .i64 xan, .string xas, .int .i64 xae]), (.agg #[.bool false, .int .i64 0, .int .i64 0, .slice (some ⟨g1, 0, none⟩) 1 1]), (.agg #[.int .i64 xbk, .int .i64 xbn, .string xbs, .int .i64 xbe]), (.agg #[.bool false, .int .i64 0, .int .i64 0, .slice (some ⟨g2, 0, none⟩) 1 1]), (.agg #[.int .i64 xck, .int .i64 xcn, .string xcs, .int .i64 xce]), (.agg #[.bool false, .int .i64 0, .int .i64 0, .slice (some ⟨g3, 0, none⟩) 1 1]), (.slice (some ⟨gs, 0, none⟩) 3 3), (.agg #[.int .i64 xvk, .int .i64 xvn, .string xvs, .int .i64 xve]), u19, u20, u21, u22, u23, u24, u25, u26, u27, u28, u29, u30, u31, u32, u33, u34, u35, u36, u37, u38, u39, u40, u41, u42, u43, u44, u45, u46, u47, u48, u49, u50, u51, u52, u53, u54, u55, u56, u57, u58, u59, u60, u61, u62], defers := [] } y) (g1 : Nat) (g2 : Nat) (ga : Nat) (y0 : World) (X : Hid (Ext W1 y0)) (Fg1 : Hid (Blk y0 g1 (.int .i64 xak) (.int .i64 xan) (.string xas) (.int .i64 xae))) (Fg2 : Hid (Blk y0 g2 (.int .i64 xbk) (.int .i64 xbn) (.string xbs) (.int .i64 xbe))) (Gga : Hid (Blk y0 ga (.int .i64 0) (.int .i64 0) (.string ⟨#[]⟩) (.int .i64 0))) (Nga : Hid (W1.heap.size ≤ ga)) :
   wpBar Tryz.prog .any eaO Q (fun _ => false) S 4 #[true, true, true, true, true, false, false, false, true, false] { tmps := #[u0, u1, u2, u3, u4, u5, u6, (.pointer (some ⟨ga, 0, none⟩)), u8, u9, u10, (.agg #[.int .i64 xak, .int .i64 xan, .string xas, .int .i64 xae]), (.agg #[.bool false, .int .i64 0, .int .i64 0, .slice (some ⟨g1, 0, none⟩) 1 1]), (.agg #[.int .i64 xbk, .int .i64 xbn, .string xbs, .int .i64 xbe]), (.agg #[.bool false, .int .i64 0, .int .i64 0, .slice (some ⟨g2, 0, none⟩) 1 1]), (.agg #[.int .i64 xck, .int .i64 xcn, .string xcs, .int .i64 xce]), u16, u17, u18, u19, u20, u21, u22, u23, u24, u25, u26, u27, u28, u29, u30, u31, u32, u33, u34, u35, u36, u37, u38, u39, u40, u41, u42, u43, u44, u45, u46, u47, u48, u49, u50, u51, u52, u53, u54, u55, u56, u57, u58, u59, u60, u61, u62], defers := [] } y0 := by
 unfold eaO
 refine bar_one (i := 5) (by kernel_rfl) rfl (fun KK hKK => ?_)
 go_simp
 go_wp2_with (go_at_call 13; refine Calls.mono (of_any xck xcn xcs xce _) ?_; rintro e y1 ⟨g3, rfl, F, E⟩)
 have Fg3 : Hid (Blk y1 g3 (.int .i64 xck) (.int .i64 xcn) (.string xcs) (.int .i64 xce)) := F
 clear F
 replace X : Hid (Ext W1 y1) := X.out.trans E
 refine hKK.out _ _ (fun _ => mkS.out _ X.out) ?_
 clear hKK KK
 replace Fg1 := hx4 Fg1 E
 replace Fg2 := hx4 Fg2 E
 replace Gga := hx4 Gga E
 clear E
 rw [show (#[true, true, true, true, true, false, false, false, true, false] : Array Bool).setIfInBounds 5 true = #[true, true, true, true, true, true, false, false, true, false] from rfl]
 exact ea_3ga mkS cI hdone g1 g2 g3 ga y1 X Fg1 Fg2 Fg3 Gga Nga

set_option maxRecDepth 100000 in
theorem ea_2 {xak xan : Int} {xas : ByteArray} {xae : Int} {xbk xbn : Int} {xbs : ByteArray} {xbe : Int} {xck xcn : Int} {xcs : ByteArray} {xce : Int} {xvk xvn : Int} {xvs : ByteArray} {xve : Int} {W1 : World} {S : World → Prop} {Q : Exit → Act → World → Prop} {u0 u1 u2 u3 u4 u5 u6 u7 u8 u9 u10 u16 u17 u18 u19 u20 u21 u22 u23 u24 u25 u26 u27 u28 u29 u30 u31 u32 u33 u34 u35 u36 u37 u38 u39 u40 u41 u42 u43 u44 u45 u46 u47 u48 u49 u50 u51 u52 u53 u54 u55 u56 u57 u58 u59 u60 u61 u62 : Value} (mkS : Hid (∀ V, Ext W1 V → S V)) (cI : Hid (∀ V g, Ext W1 V → RdB V.heap.size V (.slice (some ⟨g, 0, none⟩) 3 3) [bgR ⟨xak, xan, xas, xae⟩, bgR ⟨xbk, xbn, xbs, xbe⟩, bgR ⟨xck, xcn, xcs, xce⟩] → Calls Tryz.prog 10 #[.string ⟨#[73, 70]⟩, .slice (some ⟨g, 0, none⟩) 3 3] V fun e w' => e = .returned (.agg #[.int .i64 xvk, .int .i64 xvn, .string xvs, .int .i64 xve]) ∧ Ext V w')) (hdone : ∀ (g1 : Nat) (g2 : Nat) (g3 : Nat) (gs : Nat)  (ga : Nat) (y : World), Hid (Ext W1 y) → Hid (Blk y ga (.int .i64 xvk) (.int .i64 xvn) (.string xvs) (.int .i64 xve)) → Hid (W1.heap.size ≤ ga) → Q .normal { tmps := #[u0, u1, u2, u3, u4, u5, u6, (.pointer (some ⟨ga, 0, none⟩)), u8, u9, u10, (.agg #[.int .i64 xak, .int .i64 xan, .string xas, .int .i64 xae]), (.agg #[.bool false, .int .i64 0, .int .i64 0, .slice (some ⟨g1, 0, none⟩) 1 1]), (.agg #[.int .i64 xbk, .int .i64 xbn, .string xbs, .int .i64 xbe]), (.agg #[.bool false, .int .i64 0, .int .i64 0, .slice (some ⟨g2, 0, none⟩) 1 1]), (.agg #[.int .i64 xck, .int .i64 xcn, .string xcs, .int .i64 xce]), (.agg #[.bool false, .int .i64 0, .int .i64 0, .slice (some ⟨g3, 0, none⟩) 1 1]), (.slice (some ⟨gs, 0, none⟩) 3 3), (.agg #[.int .i64 xvk, .int .i64 xvn, .string xvs, .int .i64 xve]), u19, u20, u21, u22, u23, u24, u25, u26, u27, u28, u29, u30, u31, u32, u33, u34, u35, u36, u37, u38, u39, u40, u41, u42, u43, u44, u45, u46, u47, u48, u49, u50, u51, u52, u53, u54, u55, u56, u57, u58, u59, u60, u61, u62], defers := [] } y) (g1 : Nat) (g2 : Nat)  (y0 : World) (X : Hid (Ext W1 y0)) (Fg1 : Hid (Blk y0 g1 (.int .i64 xak) (.int .i64 xan) (.string xas) (.int .i64 xae))) (Fg2 : Hid (Blk y0 g2 (.int .i64 xbk) (.int .i64 xbn) (.string xbs) (.int .i64 xbe))) :
   wpBar Tryz.prog .any eaO Q (fun _ => false) S 5 #[true, true, true, true, true, false, false, false, false, false] { tmps := #[u0, u1, u2, u3, u4, u5, u6, u7, u8, u9, u10, (.agg #[.int .i64 xak, .int .i64 xan, .string xas, .int .i64 xae]), (.agg #[.bool false, .int .i64 0, .int .i64 0, .slice (some ⟨g1, 0, none⟩) 1 1]), (.agg #[.int .i64 xbk, .int .i64 xbn, .string xbs, .int .i64 xbe]), (.agg #[.bool false, .int .i64 0, .int .i64 0, .slice (some ⟨g2, 0, none⟩) 1 1]), (.agg #[.int .i64 xck, .int .i64 xcn, .string xcs, .int .i64 xce]), u16, u17, u18, u19, u20, u21, u22, u23, u24, u25, u26, u27, u28, u29, u30, u31, u32, u33, u34, u35, u36, u37, u38, u39, u40, u41, u42, u43, u44, u45, u46, u47, u48, u49, u50, u51, u52, u53, u54, u55, u56, u57, u58, u59, u60, u61, u62], defers := [] } y0 := by
 unfold eaO
 refine bar_list (rs := [5, 8]) (by kernel_rfl) (by simp) ?_
 refine Bars.cons rfl (fun KK hKK => ?_) ?_
 · go_simp
   go_wp2_with (go_at_call 13; refine Calls.mono (of_any xck xcn xcs xce _) ?_; rintro e y1 ⟨g3, rfl, F, E⟩)
   have Fg3 : Hid (Blk y1 g3 (.int .i64 xck) (.int .i64 xcn) (.string xcs) (.int .i64 xce)) := F
   clear F
   replace X : Hid (Ext W1 y1) := X.out.trans E
   refine hKK.out _ _ (fun _ => mkS.out _ X.out) ?_
   clear hKK KK
   replace Fg1 := hx4 Fg1 E
   replace Fg2 := hx4 Fg2 E
   clear E
   rw [show (#[true, true, true, true, true, false, false, false, false, false] : Array Bool).setIfInBounds 5 true = #[true, true, true, true, true, true, false, false, false, false] from rfl]
   exact ea_3 mkS cI hdone g1 g2 g3  y1 X Fg1 Fg2 Fg3
 · refine Bars.cons rfl (fun KK hKK => ?_) ?_
   · go_simp
     refine hKK.out _ _ (fun _ => mkS.out _ (X.out.alloc _)) ?_
     clear hKK KK
     obtain ⟨y1, hya⟩ : ∃ ya, World.alloc y0 (.cells #[.int .i64 0, .int .i64 0, .string ⟨#[]⟩, .int .i64 0] 25) = ya := ⟨_, rfl⟩
     obtain ⟨ga, hga⟩ : ∃ g, y0.heap.size = g := ⟨_, rfl⟩
     have E : Ext y0 y1 := by rw [← hya]; exact (Ext.refl _).alloc _
     have Gga : Hid (Blk y1 ga (.int .i64 0) (.int .i64 0) (.string ⟨#[]⟩) (.int .i64 0)) := by rw [← hya, ← hga]; exact blk_top rfl (Ext.refl _)
     have Nga : Hid (W1.heap.size ≤ ga) := by show _ ≤ _; rw [← hga]; exact X.out.sz
     rw [hya, hga]
     replace X : Hid (Ext W1 y1) := X.out.trans E
     replace Fg1 := hx4 Fg1 E
     replace Fg2 := hx4 Fg2 E
     clear E hya hga
     rw [show (#[true, true, true, true, true, false, false, false, false, false] : Array Bool).setIfInBounds 8 true = #[true, true, true, true, true, false, false, false, true, false] from rfl]
     exact ea_2ga mkS cI hdone g1 g2 ga y1 X Fg1 Fg2 Gga Nga
   · exact Bars.nil

set_option maxRecDepth 100000 in
theorem ea_1ga {xak xan : Int} {xas : ByteArray} {xae : Int} {xbk xbn : Int} {xbs : ByteArray} {xbe : Int} {xck xcn : Int} {xcs : ByteArray} {xce : Int} {xvk xvn : Int} {xvs : ByteArray} {xve : Int} {W1 : World} {S : World → Prop} {Q : Exit → Act → World → Prop} {u0 u1 u2 u3 u4 u5 u6 u8 u9 u10 u14 u16 u17 u18 u19 u20 u21 u22 u23 u24 u25 u26 u27 u28 u29 u30 u31 u32 u33 u34 u35 u36 u37 u38 u39 u40 u41 u42 u43 u44 u45 u46 u47 u48 u49 u50 u51 u52 u53 u54 u55 u56 u57 u58 u59 u60 u61 u62 : Value} (mkS : Hid (∀ V, Ext W1 V → S V)) (cI : Hid (∀ V g, Ext W1 V → RdB V.heap.size V (.slice (some ⟨g, 0, none⟩) 3 3) [bgR ⟨xak, xan, xas, xae⟩, bgR ⟨xbk, xbn, xbs, xbe⟩, bgR ⟨xck, xcn, xcs, xce⟩] → Calls Tryz.prog 10 #[.string ⟨#[73, 70]⟩, .slice (some ⟨g, 0, none⟩) 3 3] V fun e w' => e = .returned (.agg #[.int .i64 xvk, .int .i64 xvn, .string xvs, .int .i64 xve]) ∧ Ext V w')) (hdone : ∀ (g1 : Nat) (g2 : Nat) (g3 : Nat) (gs : Nat)  (ga : Nat) (y : World), Hid (Ext W1 y) → Hid (Blk y ga (.int .i64 xvk) (.int .i64 xvn) (.string xvs) (.int .i64 xve)) → Hid (W1.heap.size ≤ ga) → Q .normal { tmps := #[u0, u1, u2, u3, u4, u5, u6, (.pointer (some ⟨ga, 0, none⟩)), u8, u9, u10, (.agg #[.int .i64 xak, .int .i64 xan, .string xas, .int .i64 xae]), (.agg #[.bool false, .int .i64 0, .int .i64 0, .slice (some ⟨g1, 0, none⟩) 1 1]), (.agg #[.int .i64 xbk, .int .i64 xbn, .string xbs, .int .i64 xbe]), (.agg #[.bool false, .int .i64 0, .int .i64 0, .slice (some ⟨g2, 0, none⟩) 1 1]), (.agg #[.int .i64 xck, .int .i64 xcn, .string xcs, .int .i64 xce]), (.agg #[.bool false, .int .i64 0, .int .i64 0, .slice (some ⟨g3, 0, none⟩) 1 1]), (.slice (some ⟨gs, 0, none⟩) 3 3), (.agg #[.int .i64 xvk, .int .i64 xvn, .string xvs, .int .i64 xve]), u19, u20, u21, u22, u23, u24, u25, u26, u27, u28, u29, u30, u31, u32, u33, u34, u35, u36, u37, u38, u39, u40, u41, u42, u43, u44, u45, u46, u47, u48, u49, u50, u51, u52, u53, u54, u55, u56, u57, u58, u59, u60, u61, u62], defers := [] } y) (g1 : Nat) (ga : Nat) (y0 : World) (X : Hid (Ext W1 y0)) (Fg1 : Hid (Blk y0 g1 (.int .i64 xak) (.int .i64 xan) (.string xas) (.int .i64 xae))) (Gga : Hid (Blk y0 ga (.int .i64 0) (.int .i64 0) (.string ⟨#[]⟩) (.int .i64 0))) (Nga : Hid (W1.heap.size ≤ ga)) :
   wpBar Tryz.prog .any eaO Q (fun _ => false) S 5 #[true, true, true, false, true, false, false, false, true, false] { tmps := #[u0, u1, u2, u3, u4, u5, u6, (.pointer (some ⟨ga, 0, none⟩)), u8, u9, u10, (.agg #[.int .i64 xak, .int .i64 xan, .string xas, .int .i64 xae]), (.agg #[.bool false, .int .i64 0, .int .i64 0, .slice (some ⟨g1, 0, none⟩) 1 1]), (.agg #[.int .i64 xbk, .int .i64 xbn, .string xbs, .int .i64 xbe]), u14, (.agg #[.int .i64 xck, .int .i64 xcn, .string xcs, .int .i64 xce]), u16, u17, u18, u19, u20, u21, u22, u23, u24, u25, u26, u27, u28, u29, u30, u31, u32, u33, u34, u35, u36, u37, u38, u39, u40, u41, u42, u43, u44, u45, u46, u47, u48, u49, u50, u51, u52, u53, u54, u55, u56, u57, u58, u59, u60, u61, u62], defers := [] } y0 := by
 unfold eaO
 refine bar_one (i := 3) (by kernel_rfl) rfl (fun KK hKK => ?_)
 go_simp
 go_wp2_with (go_at_call 13; refine Calls.mono (of_any xbk xbn xbs xbe _) ?_; rintro e y1 ⟨g2, rfl, F, E⟩)
 have Fg2 : Hid (Blk y1 g2 (.int .i64 xbk) (.int .i64 xbn) (.string xbs) (.int .i64 xbe)) := F
 clear F
 replace X : Hid (Ext W1 y1) := X.out.trans E
 refine hKK.out _ _ (fun _ => mkS.out _ X.out) ?_
 clear hKK KK
 replace Fg1 := hx4 Fg1 E
 replace Gga := hx4 Gga E
 clear E
 rw [show (#[true, true, true, false, true, false, false, false, true, false] : Array Bool).setIfInBounds 3 true = #[true, true, true, true, true, false, false, false, true, false] from rfl]
 exact ea_2ga mkS cI hdone g1 g2 ga y1 X Fg1 Fg2 Gga Nga

set_option maxRecDepth 100000 in
theorem ea_1 {xak xan : Int} {xas : ByteArray} {xae : Int} {xbk xbn : Int} {xbs : ByteArray} {xbe : Int} {xck xcn : Int} {xcs : ByteArray} {xce : Int} {xvk xvn : Int} {xvs : ByteArray} {xve : Int} {W1 : World} {S : World → Prop} {Q : Exit → Act → World → Prop} {u0 u1 u2 u3 u4 u5 u6 u7 u8 u9 u10 u14 u16 u17 u18 u19 u20 u21 u22 u23 u24 u25 u26 u27 u28 u29 u30 u31 u32 u33 u34 u35 u36 u37 u38 u39 u40 u41 u42 u43 u44 u45 u46 u47 u48 u49 u50 u51 u52 u53 u54 u55 u56 u57 u58 u59 u60 u61 u62 : Value} (mkS : Hid (∀ V, Ext W1 V → S V)) (cI : Hid (∀ V g, Ext W1 V → RdB V.heap.size V (.slice (some ⟨g, 0, none⟩) 3 3) [bgR ⟨xak, xan, xas, xae⟩, bgR ⟨xbk, xbn, xbs, xbe⟩, bgR ⟨xck, xcn, xcs, xce⟩] → Calls Tryz.prog 10 #[.string ⟨#[73, 70]⟩, .slice (some ⟨g, 0, none⟩) 3 3] V fun e w' => e = .returned (.agg #[.int .i64 xvk, .int .i64 xvn, .string xvs, .int .i64 xve]) ∧ Ext V w')) (hdone : ∀ (g1 : Nat) (g2 : Nat) (g3 : Nat) (gs : Nat)  (ga : Nat) (y : World), Hid (Ext W1 y) → Hid (Blk y ga (.int .i64 xvk) (.int .i64 xvn) (.string xvs) (.int .i64 xve)) → Hid (W1.heap.size ≤ ga) → Q .normal { tmps := #[u0, u1, u2, u3, u4, u5, u6, (.pointer (some ⟨ga, 0, none⟩)), u8, u9, u10, (.agg #[.int .i64 xak, .int .i64 xan, .string xas, .int .i64 xae]), (.agg #[.bool false, .int .i64 0, .int .i64 0, .slice (some ⟨g1, 0, none⟩) 1 1]), (.agg #[.int .i64 xbk, .int .i64 xbn, .string xbs, .int .i64 xbe]), (.agg #[.bool false, .int .i64 0, .int .i64 0, .slice (some ⟨g2, 0, none⟩) 1 1]), (.agg #[.int .i64 xck, .int .i64 xcn, .string xcs, .int .i64 xce]), (.agg #[.bool false, .int .i64 0, .int .i64 0, .slice (some ⟨g3, 0, none⟩) 1 1]), (.slice (some ⟨gs, 0, none⟩) 3 3), (.agg #[.int .i64 xvk, .int .i64 xvn, .string xvs, .int .i64 xve]), u19, u20, u21, u22, u23, u24, u25, u26, u27, u28, u29, u30, u31, u32, u33, u34, u35, u36, u37, u38, u39, u40, u41, u42, u43, u44, u45, u46, u47, u48, u49, u50, u51, u52, u53, u54, u55, u56, u57, u58, u59, u60, u61, u62], defers := [] } y) (g1 : Nat)  (y0 : World) (X : Hid (Ext W1 y0)) (Fg1 : Hid (Blk y0 g1 (.int .i64 xak) (.int .i64 xan) (.string xas) (.int .i64 xae))) :
   wpBar Tryz.prog .any eaO Q (fun _ => false) S 6 #[true, true, true, false, true, false, false, false, false, false] { tmps := #[u0, u1, u2, u3, u4, u5, u6, u7, u8, u9, u10, (.agg #[.int .i64 xak, .int .i64 xan, .string xas, .int .i64 xae]), (.agg #[.bool false, .int .i64 0, .int .i64 0, .slice (some ⟨g1, 0, none⟩) 1 1]), (.agg #[.int .i64 xbk, .int .i64 xbn, .string xbs, .int .i64 xbe]), u14, (.agg #[.int .i64 xck, .int .i64 xcn, .string xcs, .int .i64 xce]), u16, u17, u18, u19, u20, u21, u22, u23, u24, u25, u26, u27, u28, u29, u30, u31, u32, u33, u34, u35, u36, u37, u38, u39, u40, u41, u42, u43, u44, u45, u46, u47, u48, u49, u50, u51, u52, u53, u54, u55, u56, u57, u58, u59, u60, u61, u62], defers := [] } y0 := by
 unfold eaO
 refine bar_list (rs := [3, 8]) (by kernel_rfl) (by simp) ?_
 refine Bars.cons rfl (fun KK hKK => ?_) ?_
 · go_simp
   go_wp2_with (go_at_call 13; refine Calls.mono (of_any xbk xbn xbs xbe _) ?_; rintro e y1 ⟨g2, rfl, F, E⟩)
   have Fg2 : Hid (Blk y1 g2 (.int .i64 xbk) (.int .i64 xbn) (.string xbs) (.int .i64 xbe)) := F
   clear F
   replace X : Hid (Ext W1 y1) := X.out.trans E
   refine hKK.out _ _ (fun _ => mkS.out _ X.out) ?_
   clear hKK KK
   replace Fg1 := hx4 Fg1 E
   clear E
   rw [show (#[true, true, true, false, true, false, false, false, false, false] : Array Bool).setIfInBounds 3 true = #[true, true, true, true, true, false, false, false, false, false] from rfl]
   exact ea_2 mkS cI hdone g1 g2  y1 X Fg1 Fg2
 · refine Bars.cons rfl (fun KK hKK => ?_) ?_
   · go_simp
     refine hKK.out _ _ (fun _ => mkS.out _ (X.out.alloc _)) ?_
     clear hKK KK
     obtain ⟨y1, hya⟩ : ∃ ya, World.alloc y0 (.cells #[.int .i64 0, .int .i64 0, .string ⟨#[]⟩, .int .i64 0] 25) = ya := ⟨_, rfl⟩
     obtain ⟨ga, hga⟩ : ∃ g, y0.heap.size = g := ⟨_, rfl⟩
     have E : Ext y0 y1 := by rw [← hya]; exact (Ext.refl _).alloc _
     have Gga : Hid (Blk y1 ga (.int .i64 0) (.int .i64 0) (.string ⟨#[]⟩) (.int .i64 0)) := by rw [← hya, ← hga]; exact blk_top rfl (Ext.refl _)
     have Nga : Hid (W1.heap.size ≤ ga) := by show _ ≤ _; rw [← hga]; exact X.out.sz
     rw [hya, hga]
     replace X : Hid (Ext W1 y1) := X.out.trans E
     replace Fg1 := hx4 Fg1 E
     clear E hya hga
     rw [show (#[true, true, true, false, true, false, false, false, false, false] : Array Bool).setIfInBounds 8 true = #[true, true, true, false, true, false, false, false, true, false] from rfl]
     exact ea_1ga mkS cI hdone g1 ga y1 X Fg1 Gga Nga
   · exact Bars.nil

set_option maxRecDepth 100000 in
theorem ea_0ga {xak xan : Int} {xas : ByteArray} {xae : Int} {xbk xbn : Int} {xbs : ByteArray} {xbe : Int} {xck xcn : Int} {xcs : ByteArray} {xce : Int} {xvk xvn : Int} {xvs : ByteArray} {xve : Int} {W1 : World} {S : World → Prop} {Q : Exit → Act → World → Prop} {u0 u1 u2 u3 u4 u5 u6 u8 u9 u10 u12 u14 u16 u17 u18 u19 u20 u21 u22 u23 u24 u25 u26 u27 u28 u29 u30 u31 u32 u33 u34 u35 u36 u37 u38 u39 u40 u41 u42 u43 u44 u45 u46 u47 u48 u49 u50 u51 u52 u53 u54 u55 u56 u57 u58 u59 u60 u61 u62 : Value} (mkS : Hid (∀ V, Ext W1 V → S V)) (cI : Hid (∀ V g, Ext W1 V → RdB V.heap.size V (.slice (some ⟨g, 0, none⟩) 3 3) [bgR ⟨xak, xan, xas, xae⟩, bgR ⟨xbk, xbn, xbs, xbe⟩, bgR ⟨xck, xcn, xcs, xce⟩] → Calls Tryz.prog 10 #[.string ⟨#[73, 70]⟩, .slice (some ⟨g, 0, none⟩) 3 3] V fun e w' => e = .returned (.agg #[.int .i64 xvk, .int .i64 xvn, .string xvs, .int .i64 xve]) ∧ Ext V w')) (hdone : ∀ (g1 : Nat) (g2 : Nat) (g3 : Nat) (gs : Nat)  (ga : Nat) (y : World), Hid (Ext W1 y) → Hid (Blk y ga (.int .i64 xvk) (.int .i64 xvn) (.string xvs) (.int .i64 xve)) → Hid (W1.heap.size ≤ ga) → Q .normal { tmps := #[u0, u1, u2, u3, u4, u5, u6, (.pointer (some ⟨ga, 0, none⟩)), u8, u9, u10, (.agg #[.int .i64 xak, .int .i64 xan, .string xas, .int .i64 xae]), (.agg #[.bool false, .int .i64 0, .int .i64 0, .slice (some ⟨g1, 0, none⟩) 1 1]), (.agg #[.int .i64 xbk, .int .i64 xbn, .string xbs, .int .i64 xbe]), (.agg #[.bool false, .int .i64 0, .int .i64 0, .slice (some ⟨g2, 0, none⟩) 1 1]), (.agg #[.int .i64 xck, .int .i64 xcn, .string xcs, .int .i64 xce]), (.agg #[.bool false, .int .i64 0, .int .i64 0, .slice (some ⟨g3, 0, none⟩) 1 1]), (.slice (some ⟨gs, 0, none⟩) 3 3), (.agg #[.int .i64 xvk, .int .i64 xvn, .string xvs, .int .i64 xve]), u19, u20, u21, u22, u23, u24, u25, u26, u27, u28, u29, u30, u31, u32, u33, u34, u35, u36, u37, u38, u39, u40, u41, u42, u43, u44, u45, u46, u47, u48, u49, u50, u51, u52, u53, u54, u55, u56, u57, u58, u59, u60, u61, u62], defers := [] } y)  (ga : Nat) (y0 : World) (X : Hid (Ext W1 y0)) (Gga : Hid (Blk y0 ga (.int .i64 0) (.int .i64 0) (.string ⟨#[]⟩) (.int .i64 0))) (Nga : Hid (W1.heap.size ≤ ga)) :
   wpBar Tryz.prog .any eaO Q (fun _ => false) S 6 #[true, false, true, false, true, false, false, false, true, false] { tmps := #[u0, u1, u2, u3, u4, u5, u6, (.pointer (some ⟨ga, 0, none⟩)), u8, u9, u10, (.agg #[.int .i64 xak, .int .i64 xan, .string xas, .int .i64 xae]), u12, (.agg #[.int .i64 xbk, .int .i64 xbn, .string xbs, .int .i64 xbe]), u14, (.agg #[.int .i64 xck, .int .i64 xcn, .string xcs, .int .i64 xce]), u16, u17, u18, u19, u20, u21, u22, u23, u24, u25, u26, u27, u28, u29, u30, u31, u32, u33, u34, u35, u36, u37, u38, u39, u40, u41, u42, u43, u44, u45, u46, u47, u48, u49, u50, u51, u52, u53, u54, u55, u56, u57, u58, u59, u60, u61, u62], defers := [] } y0 := by
 unfold eaO
 refine bar_one (i := 1) (by kernel_rfl) rfl (fun KK hKK => ?_)
 go_simp
 go_wp2_with (go_at_call 13; refine Calls.mono (of_any xak xan xas xae _) ?_; rintro e y1 ⟨g1, rfl, F, E⟩)
 have Fg1 : Hid (Blk y1 g1 (.int .i64 xak) (.int .i64 xan) (.string xas) (.int .i64 xae)) := F
 clear F
 replace X : Hid (Ext W1 y1) := X.out.trans E
 refine hKK.out _ _ (fun _ => mkS.out _ X.out) ?_
 clear hKK KK
 replace Gga := hx4 Gga E
 clear E
 rw [show (#[true, false, true, false, true, false, false, false, true, false] : Array Bool).setIfInBounds 1 true = #[true, true, true, false, true, false, false, false, true, false] from rfl]
 exact ea_1ga mkS cI hdone g1 ga y1 X Fg1 Gga Nga

set_option maxRecDepth 100000 in
theorem ea_0 {xak xan : Int} {xas : ByteArray} {xae : Int} {xbk xbn : Int} {xbs : ByteArray} {xbe : Int} {xck xcn : Int} {xcs : ByteArray} {xce : Int} {xvk xvn : Int} {xvs : ByteArray} {xve : Int} {W1 : World} {S : World → Prop} {Q : Exit → Act → World → Prop} {u0 u1 u2 u3 u4 u5 u6 u7 u8 u9 u10 u12 u14 u16 u17 u18 u19 u20 u21 u22 u23 u24 u25 u26 u27 u28 u29 u30 u31 u32 u33 u34 u35 u36 u37 u38 u39 u40 u41 u42 u43 u44 u45 u46 u47 u48 u49 u50 u51 u52 u53 u54 u55 u56 u57 u58 u59 u60 u61 u62 : Value} (mkS : Hid (∀ V, Ext W1 V → S V)) (cI : Hid (∀ V g, Ext W1 V → RdB V.heap.size V (.slice (some ⟨g, 0, none⟩) 3 3) [bgR ⟨xak, xan, xas, xae⟩, bgR ⟨xbk, xbn, xbs, xbe⟩, bgR ⟨xck, xcn, xcs, xce⟩] → Calls Tryz.prog 10 #[.string ⟨#[73, 70]⟩, .slice (some ⟨g, 0, none⟩) 3 3] V fun e w' => e = .returned (.agg #[.int .i64 xvk, .int .i64 xvn, .string xvs, .int .i64 xve]) ∧ Ext V w')) (hdone : ∀ (g1 : Nat) (g2 : Nat) (g3 : Nat) (gs : Nat)  (ga : Nat) (y : World), Hid (Ext W1 y) → Hid (Blk y ga (.int .i64 xvk) (.int .i64 xvn) (.string xvs) (.int .i64 xve)) → Hid (W1.heap.size ≤ ga) → Q .normal { tmps := #[u0, u1, u2, u3, u4, u5, u6, (.pointer (some ⟨ga, 0, none⟩)), u8, u9, u10, (.agg #[.int .i64 xak, .int .i64 xan, .string xas, .int .i64 xae]), (.agg #[.bool false, .int .i64 0, .int .i64 0, .slice (some ⟨g1, 0, none⟩) 1 1]), (.agg #[.int .i64 xbk, .int .i64 xbn, .string xbs, .int .i64 xbe]), (.agg #[.bool false, .int .i64 0, .int .i64 0, .slice (some ⟨g2, 0, none⟩) 1 1]), (.agg #[.int .i64 xck, .int .i64 xcn, .string xcs, .int .i64 xce]), (.agg #[.bool false, .int .i64 0, .int .i64 0, .slice (some ⟨g3, 0, none⟩) 1 1]), (.slice (some ⟨gs, 0, none⟩) 3 3), (.agg #[.int .i64 xvk, .int .i64 xvn, .string xvs, .int .i64 xve]), u19, u20, u21, u22, u23, u24, u25, u26, u27, u28, u29, u30, u31, u32, u33, u34, u35, u36, u37, u38, u39, u40, u41, u42, u43, u44, u45, u46, u47, u48, u49, u50, u51, u52, u53, u54, u55, u56, u57, u58, u59, u60, u61, u62], defers := [] } y)   (y0 : World) (X : Hid (Ext W1 y0)) :
   wpBar Tryz.prog .any eaO Q (fun _ => false) S 7 #[true, false, true, false, true, false, false, false, false, false] { tmps := #[u0, u1, u2, u3, u4, u5, u6, u7, u8, u9, u10, (.agg #[.int .i64 xak, .int .i64 xan, .string xas, .int .i64 xae]), u12, (.agg #[.int .i64 xbk, .int .i64 xbn, .string xbs, .int .i64 xbe]), u14, (.agg #[.int .i64 xck, .int .i64 xcn, .string xcs, .int .i64 xce]), u16, u17, u18, u19, u20, u21, u22, u23, u24, u25, u26, u27, u28, u29, u30, u31, u32, u33, u34, u35, u36, u37, u38, u39, u40, u41, u42, u43, u44, u45, u46, u47, u48, u49, u50, u51, u52, u53, u54, u55, u56, u57, u58, u59, u60, u61, u62], defers := [] } y0 := by
 unfold eaO
 refine bar_list (rs := [1, 8]) (by kernel_rfl) (by simp) ?_
 refine Bars.cons rfl (fun KK hKK => ?_) ?_
 · go_simp
   go_wp2_with (go_at_call 13; refine Calls.mono (of_any xak xan xas xae _) ?_; rintro e y1 ⟨g1, rfl, F, E⟩)
   have Fg1 : Hid (Blk y1 g1 (.int .i64 xak) (.int .i64 xan) (.string xas) (.int .i64 xae)) := F
   clear F
   replace X : Hid (Ext W1 y1) := X.out.trans E
   refine hKK.out _ _ (fun _ => mkS.out _ X.out) ?_
   clear hKK KK
   clear E
   rw [show (#[true, false, true, false, true, false, false, false, false, false] : Array Bool).setIfInBounds 1 true = #[true, true, true, false, true, false, false, false, false, false] from rfl]
   exact ea_1 mkS cI hdone g1  y1 X Fg1
 · refine Bars.cons rfl (fun KK hKK => ?_) ?_
   · go_simp
     refine hKK.out _ _ (fun _ => mkS.out _ (X.out.alloc _)) ?_
     clear hKK KK
     obtain ⟨y1, hya⟩ : ∃ ya, World.alloc y0 (.cells #[.int .i64 0, .int .i64 0, .string ⟨#[]⟩, .int .i64 0] 25) = ya := ⟨_, rfl⟩
     obtain ⟨ga, hga⟩ : ∃ g, y0.heap.size = g := ⟨_, rfl⟩
     have E : Ext y0 y1 := by rw [← hya]; exact (Ext.refl _).alloc _
     have Gga : Hid (Blk y1 ga (.int .i64 0) (.int .i64 0) (.string ⟨#[]⟩) (.int .i64 0)) := by rw [← hya, ← hga]; exact blk_top rfl (Ext.refl _)
     have Nga : Hid (W1.heap.size ≤ ga) := by show _ ≤ _; rw [← hga]; exact X.out.sz
     rw [hya, hga]
     replace X : Hid (Ext W1 y1) := X.out.trans E
     clear E hya hga
     rw [show (#[true, false, true, false, true, false, false, false, false, false] : Array Bool).setIfInBounds 8 true = #[true, false, true, false, true, false, false, false, true, false] from rfl]
     exact ea_0ga mkS cI hdone  ga y1 X Gga Nga
   · exact Bars.nil

def ebO : Array Oper := #[⟨some 19, .load 25 (.tmp 3), 25, "law.go:41", #[], none⟩, ⟨some 20, .call { callee := .value (.func 13), args := #[.tmp 19], argTypes := #[25] }, 31, "law.go:41", #[⟨0, .data⟩], none⟩, ⟨some 21, .load 25 (.tmp 4), 25, "law.go:41", #[], none⟩, ⟨some 22, .call { callee := .value (.func 13), args := #[.tmp 21], argTypes := #[25] }, 31, "law.go:41", #[⟨2, .data⟩, ⟨1, .chain⟩], none⟩, ⟨some 23, .buildSlice 22 2 #[(0, .tmp 20), (1, .tmp 22)], 22, "law.go:41", #[⟨1, .data⟩, ⟨3, .data⟩], none⟩, ⟨some 24, .call { callee := .value (.func 10), args := #[.const (.string ⟨#[73, 70, 69, 82, 82, 79, 82]⟩), .tmp 23], argTypes := #[9, 22] }, 25, "law.go:41", #[⟨4, .data⟩, ⟨3, .chain⟩], none⟩, ⟨some 8, .alloc 25, 0, "law.go:41", #[], none⟩, ⟨none, .store 25 (.tmp 8) (.tmp 24), 0, "law.go:41", #[⟨6, .data⟩, ⟨5, .data⟩, ⟨5, .chain⟩, ⟨0, .phase⟩, ⟨1, .phase⟩, ⟨2, .phase⟩, ⟨3, .phase⟩, ⟨4, .phase⟩, ⟨5, .phase⟩, ⟨6, .phase⟩], none⟩]

set_option maxRecDepth 100000 in
theorem eb_4ga {xak xan : Int} {xas : ByteArray} {xae : Int} {xbk xbn : Int} {xbs : ByteArray} {xbe : Int} {xvk xvn : Int} {xvs : ByteArray} {xve : Int} {W1 : World} {S : World → Prop} {Q : Exit → Act → World → Prop} {u0 u1 u2 u3 u4 u5 u6 u7 u9 u10 u11 u12 u13 u14 u15 u16 u17 u18 u25 u26 u27 u28 u29 u30 u31 u32 u33 u34 u35 u36 u37 u38 u39 u40 u41 u42 u43 u44 u45 u46 u47 u48 u49 u50 u51 u52 u53 u54 u55 u56 u57 u58 u59 u60 u61 u62 : Value} (mkS : Hid (∀ V, Ext W1 V → S V)) (_cI : Hid (∀ V g, Ext W1 V → RdB V.heap.size V (.slice (some ⟨g, 0, none⟩) 2 2) [bgR ⟨xak, xan, xas, xae⟩, bgR ⟨xbk, xbn, xbs, xbe⟩] → Calls Tryz.prog 10 #[.string ⟨#[73, 70, 69, 82, 82, 79, 82]⟩, .slice (some ⟨g, 0, none⟩) 2 2] V fun e w' => e = .returned (.agg #[.int .i64 xvk, .int .i64 xvn, .string xvs, .int .i64 xve]) ∧ Ext V w')) (hdone : ∀ (g1 : Nat) (g2 : Nat) (gs : Nat)  (ga : Nat) (y : World), Hid (Ext W1 y) → Hid (Blk y ga (.int .i64 xvk) (.int .i64 xvn) (.string xvs) (.int .i64 xve)) → Hid (W1.heap.size ≤ ga) → Q .normal { tmps := #[u0, u1, u2, u3, u4, u5, u6, u7, (.pointer (some ⟨ga, 0, none⟩)), u9, u10, u11, u12, u13, u14, u15, u16, u17, u18, (.agg #[.int .i64 xak, .int .i64 xan, .string xas, .int .i64 xae]), (.agg #[.bool false, .int .i64 0, .int .i64 0, .slice (some ⟨g1, 0, none⟩) 1 1]), (.agg #[.int .i64 xbk, .int .i64 xbn, .string xbs, .int .i64 xbe]), (.agg #[.bool false, .int .i64 0, .int .i64 0, .slice (some ⟨g2, 0, none⟩) 1 1]), (.slice (some ⟨gs, 0, none⟩) 2 2), (.agg #[.int .i64 xvk, .int .i64 xvn, .string xvs, .int .i64 xve]), u25, u26, u27, u28, u29, u30, u31, u32, u33, u34, u35, u36, u37, u38, u39, u40, u41, u42, u43, u44, u45, u46, u47, u48, u49, u50, u51, u52, u53, u54, u55, u56, u57, u58, u59, u60, u61, u62], defers := [] } y) (g1 : Nat) (g2 : Nat) (gs : Nat)  (ga : Nat) (y0 : World) (X : Hid (Ext W1 y0)) (_Fg1 : Hid (Blk y0 g1 (.int .i64 xak) (.int .i64 xan) (.string xas) (.int .i64 xae))) (_Fg2 : Hid (Blk y0 g2 (.int .i64 xbk) (.int .i64 xbn) (.string xbs) (.int .i64 xbe))) (_FS : Hid (RdB y0.heap.size y0 (.slice (some ⟨gs, 0, none⟩) 2 2) [bgR ⟨xak, xan, xas, xae⟩, bgR ⟨xbk, xbn, xbs, xbe⟩])) (Gga : Hid (Blk y0 ga (.int .i64 0) (.int .i64 0) (.string ⟨#[]⟩) (.int .i64 0))) (Nga : Hid (W1.heap.size ≤ ga)) :
   wpBar Tryz.prog .any ebO Q (fun _ => false) S 1 #[true, true, true, true, true, true, true, false] { tmps := #[u0, u1, u2, u3, u4, u5, u6, u7, (.pointer (some ⟨ga, 0, none⟩)), u9, u10, u11, u12, u13, u14, u15, u16, u17, u18, (.agg #[.int .i64 xak, .int .i64 xan, .string xas, .int .i64 xae]), (.agg #[.bool false, .int .i64 0, .int .i64 0, .slice (some ⟨g1, 0, none⟩) 1 1]), (.agg #[.int .i64 xbk, .int .i64 xbn, .string xbs, .int .i64 xbe]), (.agg #[.bool false, .int .i64 0, .int .i64 0, .slice (some ⟨g2, 0, none⟩) 1 1]), (.slice (some ⟨gs, 0, none⟩) 2 2), (.agg #[.int .i64 xvk, .int .i64 xvn, .string xvs, .int .i64 xve]), u25, u26, u27, u28, u29, u30, u31, u32, u33, u34, u35, u36, u37, u38, u39, u40, u41, u42, u43, u44, u45, u46, u47, u48, u49, u50, u51, u52, u53, u54, u55, u56, u57, u58, u59, u60, u61, u62], defers := [] } y0 := by
 unfold ebO
 obtain ⟨za, ⟨a0, a1, a2, a3⟩, af0, af1, af2, af3⟩ := Gga.out
 refine bar_one (i := 7) (by kernel_rfl) rfl (fun KK hKK => ?_)
 go_simp
 have EP : Hid (Ext W1 ((((y0.setCell ⟨ga, 0, none⟩ (.int .i64 xvk)).setCell ⟨ga, 1, none⟩ (.int .i64 xvn)).setCell ⟨ga, 2, none⟩ (.string xvs)).setCell ⟨ga, 3, none⟩ (.int .i64 xve))) := (((X.out.setCell (p := ⟨ga, 0, none⟩) Nga.out _).setCell (p := ⟨ga, 1, none⟩) Nga.out _).setCell (p := ⟨ga, 2, none⟩) Nga.out _).setCell (p := ⟨ga, 3, none⟩) Nga.out _
 refine hKK.out _ ((((y0.setCell ⟨ga, 0, none⟩ (.int .i64 xvk)).setCell ⟨ga, 1, none⟩ (.int .i64 xvn)).setCell ⟨ga, 2, none⟩ (.string xvs)).setCell ⟨ga, 3, none⟩ (.int .i64 xve)) (fun _ => mkS.out _ EP.out) ?_
 clear hKK KK za a0 a1 a2 a3 af0 af1 af2 af3
 replace Gga : Hid (Blk ((((y0.setCell ⟨ga, 0, none⟩ (.int .i64 xvk)).setCell ⟨ga, 1, none⟩ (.int .i64 xvn)).setCell ⟨ga, 2, none⟩ (.string xvs)).setCell ⟨ga, 3, none⟩ (.int .i64 xve)) ga (.int .i64 xvk) (.int .i64 xvn) (.string xvs) (.int .i64 xve)) := Gga.out.set _ _ _ _
 replace X := EP
 clear EP
 generalize (((y0.setCell ⟨ga, 0, none⟩ (.int .i64 xvk)).setCell ⟨ga, 1, none⟩ (.int .i64 xvn)).setCell ⟨ga, 2, none⟩ (.string xvs)).setCell ⟨ga, 3, none⟩ (.int .i64 xve) = w2 at *
 rw [show (#[true, true, true, true, true, true, true, false] : Array Bool).setIfInBounds 7 true = #[true, true, true, true, true, true, true, true] from rfl]
 refine bar_done (by kernel_rfl) ?_ _
 exact hdone g1 g2 gs  ga w2 X Gga Nga

set_option maxRecDepth 100000 in
theorem eb_4 {xak xan : Int} {xas : ByteArray} {xae : Int} {xbk xbn : Int} {xbs : ByteArray} {xbe : Int} {xvk xvn : Int} {xvs : ByteArray} {xve : Int} {W1 : World} {S : World → Prop} {Q : Exit → Act → World → Prop} {u0 u1 u2 u3 u4 u5 u6 u7 u8 u9 u10 u11 u12 u13 u14 u15 u16 u17 u18 u25 u26 u27 u28 u29 u30 u31 u32 u33 u34 u35 u36 u37 u38 u39 u40 u41 u42 u43 u44 u45 u46 u47 u48 u49 u50 u51 u52 u53 u54 u55 u56 u57 u58 u59 u60 u61 u62 : Value} (mkS : Hid (∀ V, Ext W1 V → S V)) (cI : Hid (∀ V g, Ext W1 V → RdB V.heap.size V (.slice (some ⟨g, 0, none⟩) 2 2) [bgR ⟨xak, xan, xas, xae⟩, bgR ⟨xbk, xbn, xbs, xbe⟩] → Calls Tryz.prog 10 #[.string ⟨#[73, 70, 69, 82, 82, 79, 82]⟩, .slice (some ⟨g, 0, none⟩) 2 2] V fun e w' => e = .returned (.agg #[.int .i64 xvk, .int .i64 xvn, .string xvs, .int .i64 xve]) ∧ Ext V w')) (hdone : ∀ (g1 : Nat) (g2 : Nat) (gs : Nat)  (ga : Nat) (y : World), Hid (Ext W1 y) → Hid (Blk y ga (.int .i64 xvk) (.int .i64 xvn) (.string xvs) (.int .i64 xve)) → Hid (W1.heap.size ≤ ga) → Q .normal { tmps := #[u0, u1, u2, u3, u4, u5, u6, u7, (.pointer (some ⟨ga, 0, none⟩)), u9, u10, u11, u12, u13, u14, u15, u16, u17, u18, (.agg #[.int .i64 xak, .int .i64 xan, .string xas, .int .i64 xae]), (.agg #[.bool false, .int .i64 0, .int .i64 0, .slice (some ⟨g1, 0, none⟩) 1 1]), (.agg #[.int .i64 xbk, .int .i64 xbn, .string xbs, .int .i64 xbe]), (.agg #[.bool false, .int .i64 0, .int .i64 0, .slice (some ⟨g2, 0, none⟩) 1 1]), (.slice (some ⟨gs, 0, none⟩) 2 2), (.agg #[.int .i64 xvk, .int .i64 xvn, .string xvs, .int .i64 xve]), u25, u26, u27, u28, u29, u30, u31, u32, u33, u34, u35, u36, u37, u38, u39, u40, u41, u42, u43, u44, u45, u46, u47, u48, u49, u50, u51, u52, u53, u54, u55, u56, u57, u58, u59, u60, u61, u62], defers := [] } y) (g1 : Nat) (g2 : Nat) (gs : Nat)   (y0 : World) (X : Hid (Ext W1 y0)) (Fg1 : Hid (Blk y0 g1 (.int .i64 xak) (.int .i64 xan) (.string xas) (.int .i64 xae))) (Fg2 : Hid (Blk y0 g2 (.int .i64 xbk) (.int .i64 xbn) (.string xbs) (.int .i64 xbe))) (FS : Hid (RdB y0.heap.size y0 (.slice (some ⟨gs, 0, none⟩) 2 2) [bgR ⟨xak, xan, xas, xae⟩, bgR ⟨xbk, xbn, xbs, xbe⟩])) :
   wpBar Tryz.prog .any ebO Q (fun _ => false) S 2 #[true, true, true, true, true, true, false, false] { tmps := #[u0, u1, u2, u3, u4, u5, u6, u7, u8, u9, u10, u11, u12, u13, u14, u15, u16, u17, u18, (.agg #[.int .i64 xak, .int .i64 xan, .string xas, .int .i64 xae]), (.agg #[.bool false, .int .i64 0, .int .i64 0, .slice (some ⟨g1, 0, none⟩) 1 1]), (.agg #[.int .i64 xbk, .int .i64 xbn, .string xbs, .int .i64 xbe]), (.agg #[.bool false, .int .i64 0, .int .i64 0, .slice (some ⟨g2, 0, none⟩) 1 1]), (.slice (some ⟨gs, 0, none⟩) 2 2), (.agg #[.int .i64 xvk, .int .i64 xvn, .string xvs, .int .i64 xve]), u25, u26, u27, u28, u29, u30, u31, u32, u33, u34, u35, u36, u37, u38, u39, u40, u41, u42, u43, u44, u45, u46, u47, u48, u49, u50, u51, u52, u53, u54, u55, u56, u57, u58, u59, u60, u61, u62], defers := [] } y0 := by
 unfold ebO
 refine bar_one (i := 6) (by kernel_rfl) rfl (fun KK hKK => ?_)
 go_simp
 refine hKK.out _ _ (fun _ => mkS.out _ (X.out.alloc _)) ?_
 clear hKK KK
 obtain ⟨y1, hya⟩ : ∃ ya, World.alloc y0 (.cells #[.int .i64 0, .int .i64 0, .string ⟨#[]⟩, .int .i64 0] 25) = ya := ⟨_, rfl⟩
 obtain ⟨ga, hga⟩ : ∃ g, y0.heap.size = g := ⟨_, rfl⟩
 have E : Ext y0 y1 := by rw [← hya]; exact (Ext.refl _).alloc _
 have Gga : Hid (Blk y1 ga (.int .i64 0) (.int .i64 0) (.string ⟨#[]⟩) (.int .i64 0)) := by rw [← hya, ← hga]; exact blk_top rfl (Ext.refl _)
 have Nga : Hid (W1.heap.size ≤ ga) := by show _ ≤ _; rw [← hga]; exact X.out.sz
 rw [hya, hga]
 replace X : Hid (Ext W1 y1) := X.out.trans E
 replace Fg1 := hx4 Fg1 E
 replace Fg2 := hx4 Fg2 E
 replace FS := hxB FS E
 clear E hya hga
 rw [show (#[true, true, true, true, true, true, false, false] : Array Bool).setIfInBounds 6 true = #[true, true, true, true, true, true, true, false] from rfl]
 exact eb_4ga mkS cI hdone g1 g2 gs  ga y1 X Fg1 Fg2 FS Gga Nga

set_option maxRecDepth 100000 in
theorem eb_3ga {xak xan : Int} {xas : ByteArray} {xae : Int} {xbk xbn : Int} {xbs : ByteArray} {xbe : Int} {xvk xvn : Int} {xvs : ByteArray} {xve : Int} {W1 : World} {S : World → Prop} {Q : Exit → Act → World → Prop} {u0 u1 u2 u3 u4 u5 u6 u7 u9 u10 u11 u12 u13 u14 u15 u16 u17 u18 u24 u25 u26 u27 u28 u29 u30 u31 u32 u33 u34 u35 u36 u37 u38 u39 u40 u41 u42 u43 u44 u45 u46 u47 u48 u49 u50 u51 u52 u53 u54 u55 u56 u57 u58 u59 u60 u61 u62 : Value} (mkS : Hid (∀ V, Ext W1 V → S V)) (cI : Hid (∀ V g, Ext W1 V → RdB V.heap.size V (.slice (some ⟨g, 0, none⟩) 2 2) [bgR ⟨xak, xan, xas, xae⟩, bgR ⟨xbk, xbn, xbs, xbe⟩] → Calls Tryz.prog 10 #[.string ⟨#[73, 70, 69, 82, 82, 79, 82]⟩, .slice (some ⟨g, 0, none⟩) 2 2] V fun e w' => e = .returned (.agg #[.int .i64 xvk, .int .i64 xvn, .string xvs, .int .i64 xve]) ∧ Ext V w')) (hdone : ∀ (g1 : Nat) (g2 : Nat) (gs : Nat)  (ga : Nat) (y : World), Hid (Ext W1 y) → Hid (Blk y ga (.int .i64 xvk) (.int .i64 xvn) (.string xvs) (.int .i64 xve)) → Hid (W1.heap.size ≤ ga) → Q .normal { tmps := #[u0, u1, u2, u3, u4, u5, u6, u7, (.pointer (some ⟨ga, 0, none⟩)), u9, u10, u11, u12, u13, u14, u15, u16, u17, u18, (.agg #[.int .i64 xak, .int .i64 xan, .string xas, .int .i64 xae]), (.agg #[.bool false, .int .i64 0, .int .i64 0, .slice (some ⟨g1, 0, none⟩) 1 1]), (.agg #[.int .i64 xbk, .int .i64 xbn, .string xbs, .int .i64 xbe]), (.agg #[.bool false, .int .i64 0, .int .i64 0, .slice (some ⟨g2, 0, none⟩) 1 1]), (.slice (some ⟨gs, 0, none⟩) 2 2), (.agg #[.int .i64 xvk, .int .i64 xvn, .string xvs, .int .i64 xve]), u25, u26, u27, u28, u29, u30, u31, u32, u33, u34, u35, u36, u37, u38, u39, u40, u41, u42, u43, u44, u45, u46, u47, u48, u49, u50, u51, u52, u53, u54, u55, u56, u57, u58, u59, u60, u61, u62], defers := [] } y) (g1 : Nat) (g2 : Nat) (gs : Nat) (ga : Nat) (y0 : World) (X : Hid (Ext W1 y0)) (Fg1 : Hid (Blk y0 g1 (.int .i64 xak) (.int .i64 xan) (.string xas) (.int .i64 xae))) (Fg2 : Hid (Blk y0 g2 (.int .i64 xbk) (.int .i64 xbn) (.string xbs) (.int .i64 xbe))) (FS : Hid (RdB y0.heap.size y0 (.slice (some ⟨gs, 0, none⟩) 2 2) [bgR ⟨xak, xan, xas, xae⟩, bgR ⟨xbk, xbn, xbs, xbe⟩])) (Gga : Hid (Blk y0 ga (.int .i64 0) (.int .i64 0) (.string ⟨#[]⟩) (.int .i64 0))) (Nga : Hid (W1.heap.size ≤ ga)) :
   wpBar Tryz.prog .any ebO Q (fun _ => false) S 2 #[true, true, true, true, true, false, true, false] { tmps := #[u0, u1, u2, u3, u4, u5, u6, u7, (.pointer (some ⟨ga, 0, none⟩)), u9, u10, u11, u12, u13, u14, u15, u16, u17, u18, (.agg #[.int .i64 xak, .int .i64 xan, .string xas, .int .i64 xae]), (.agg #[.bool false, .int .i64 0, .int .i64 0, .slice (some ⟨g1, 0, none⟩) 1 1]), (.agg #[.int .i64 xbk, .int .i64 xbn, .string xbs, .int .i64 xbe]), (.agg #[.bool false, .int .i64 0, .int .i64 0, .slice (some ⟨g2, 0, none⟩) 1 1]), (.slice (some ⟨gs, 0, none⟩) 2 2), u24, u25, u26, u27, u28, u29, u30, u31, u32, u33, u34, u35, u36, u37, u38, u39, u40, u41, u42, u43, u44, u45, u46, u47, u48, u49, u50, u51, u52, u53, u54, u55, u56, u57, u58, u59, u60, u61, u62], defers := [] } y0 := by
 unfold ebO
 refine bar_one (i := 5) (by kernel_rfl) rfl (fun KK hKK => ?_)
 go_simp
 go_wp2_with (go_at_call 10; refine Calls.mono (cI.out _ _ X.out FS.out) ?_; rintro e y1 ⟨rfl, E⟩)
 replace X : Hid (Ext W1 y1) := X.out.trans E
 refine hKK.out _ _ (fun _ => mkS.out _ X.out) ?_
 clear hKK KK
 replace Fg1 := hx4 Fg1 E
 replace Fg2 := hx4 Fg2 E
 replace FS := hxB FS E
 replace Gga := hx4 Gga E
 clear E
 rw [show (#[true, true, true, true, true, false, true, false] : Array Bool).setIfInBounds 5 true = #[true, true, true, true, true, true, true, false] from rfl]
 exact eb_4ga mkS cI hdone g1 g2 gs  ga y1 X Fg1 Fg2 FS Gga Nga

set_option maxRecDepth 100000 in
theorem eb_3 {xak xan : Int} {xas : ByteArray} {xae : Int} {xbk xbn : Int} {xbs : ByteArray} {xbe : Int} {xvk xvn : Int} {xvs : ByteArray} {xve : Int} {W1 : World} {S : World → Prop} {Q : Exit → Act → World → Prop} {u0 u1 u2 u3 u4 u5 u6 u7 u8 u9 u10 u11 u12 u13 u14 u15 u16 u17 u18 u24 u25 u26 u27 u28 u29 u30 u31 u32 u33 u34 u35 u36 u37 u38 u39 u40 u41 u42 u43 u44 u45 u46 u47 u48 u49 u50 u51 u52 u53 u54 u55 u56 u57 u58 u59 u60 u61 u62 : Value} (mkS : Hid (∀ V, Ext W1 V → S V)) (cI : Hid (∀ V g, Ext W1 V → RdB V.heap.size V (.slice (some ⟨g, 0, none⟩) 2 2) [bgR ⟨xak, xan, xas, xae⟩, bgR ⟨xbk, xbn, xbs, xbe⟩] → Calls Tryz.prog 10 #[.string ⟨#[73, 70, 69, 82, 82, 79, 82]⟩, .slice (some ⟨g, 0, none⟩) 2 2] V fun e w' => e = .returned (.agg #[.int .i64 xvk, .int .i64 xvn, .string xvs, .int .i64 xve]) ∧ Ext V w')) (hdone : ∀ (g1 : Nat) (g2 : Nat) (gs : Nat)  (ga : Nat) (y : World), Hid (Ext W1 y) → Hid (Blk y ga (.int .i64 xvk) (.int .i64 xvn) (.string xvs) (.int .i64 xve)) → Hid (W1.heap.size ≤ ga) → Q .normal { tmps := #[u0, u1, u2, u3, u4, u5, u6, u7, (.pointer (some ⟨ga, 0, none⟩)), u9, u10, u11, u12, u13, u14, u15, u16, u17, u18, (.agg #[.int .i64 xak, .int .i64 xan, .string xas, .int .i64 xae]), (.agg #[.bool false, .int .i64 0, .int .i64 0, .slice (some ⟨g1, 0, none⟩) 1 1]), (.agg #[.int .i64 xbk, .int .i64 xbn, .string xbs, .int .i64 xbe]), (.agg #[.bool false, .int .i64 0, .int .i64 0, .slice (some ⟨g2, 0, none⟩) 1 1]), (.slice (some ⟨gs, 0, none⟩) 2 2), (.agg #[.int .i64 xvk, .int .i64 xvn, .string xvs, .int .i64 xve]), u25, u26, u27, u28, u29, u30, u31, u32, u33, u34, u35, u36, u37, u38, u39, u40, u41, u42, u43, u44, u45, u46, u47, u48, u49, u50, u51, u52, u53, u54, u55, u56, u57, u58, u59, u60, u61, u62], defers := [] } y) (g1 : Nat) (g2 : Nat) (gs : Nat)  (y0 : World) (X : Hid (Ext W1 y0)) (Fg1 : Hid (Blk y0 g1 (.int .i64 xak) (.int .i64 xan) (.string xas) (.int .i64 xae))) (Fg2 : Hid (Blk y0 g2 (.int .i64 xbk) (.int .i64 xbn) (.string xbs) (.int .i64 xbe))) (FS : Hid (RdB y0.heap.size y0 (.slice (some ⟨gs, 0, none⟩) 2 2) [bgR ⟨xak, xan, xas, xae⟩, bgR ⟨xbk, xbn, xbs, xbe⟩])) :
   wpBar Tryz.prog .any ebO Q (fun _ => false) S 3 #[true, true, true, true, true, false, false, false] { tmps := #[u0, u1, u2, u3, u4, u5, u6, u7, u8, u9, u10, u11, u12, u13, u14, u15, u16, u17, u18, (.agg #[.int .i64 xak, .int .i64 xan, .string xas, .int .i64 xae]), (.agg #[.bool false, .int .i64 0, .int .i64 0, .slice (some ⟨g1, 0, none⟩) 1 1]), (.agg #[.int .i64 xbk, .int .i64 xbn, .string xbs, .int .i64 xbe]), (.agg #[.bool false, .int .i64 0, .int .i64 0, .slice (some ⟨g2, 0, none⟩) 1 1]), (.slice (some ⟨gs, 0, none⟩) 2 2), u24, u25, u26, u27, u28, u29, u30, u31, u32, u33, u34, u35, u36, u37, u38, u39, u40, u41, u42, u43, u44, u45, u46, u47, u48, u49, u50, u51, u52, u53, u54, u55, u56, u57, u58, u59, u60, u61, u62], defers := [] } y0 := by
 unfold ebO
 refine bar_list (rs := [5, 6]) (by kernel_rfl) (by simp) ?_
 refine Bars.cons rfl (fun KK hKK => ?_) ?_
 · go_simp
   go_wp2_with (go_at_call 10; refine Calls.mono (cI.out _ _ X.out FS.out) ?_; rintro e y1 ⟨rfl, E⟩)
   replace X : Hid (Ext W1 y1) := X.out.trans E
   refine hKK.out _ _ (fun _ => mkS.out _ X.out) ?_
   clear hKK KK
   replace Fg1 := hx4 Fg1 E
   replace Fg2 := hx4 Fg2 E
   replace FS := hxB FS E
   clear E
   rw [show (#[true, true, true, true, true, false, false, false] : Array Bool).setIfInBounds 5 true = #[true, true, true, true, true, true, false, false] from rfl]
   exact eb_4 mkS cI hdone g1 g2 gs   y1 X Fg1 Fg2 FS
 · refine Bars.cons rfl (fun KK hKK => ?_) ?_
   · go_simp
     refine hKK.out _ _ (fun _ => mkS.out _ (X.out.alloc _)) ?_
     clear hKK KK
     obtain ⟨y1, hya⟩ : ∃ ya, World.alloc y0 (.cells #[.int .i64 0, .int .i64 0, .string ⟨#[]⟩, .int .i64 0] 25) = ya := ⟨_, rfl⟩
     obtain ⟨ga, hga⟩ : ∃ g, y0.heap.size = g := ⟨_, rfl⟩
     have E : Ext y0 y1 := by rw [← hya]; exact (Ext.refl _).alloc _
     have Gga : Hid (Blk y1 ga (.int .i64 0) (.int .i64 0) (.string ⟨#[]⟩) (.int .i64 0)) := by rw [← hya, ← hga]; exact blk_top rfl (Ext.refl _)
     have Nga : Hid (W1.heap.size ≤ ga) := by show _ ≤ _; rw [← hga]; exact X.out.sz
     rw [hya, hga]
     replace X : Hid (Ext W1 y1) := X.out.trans E
     replace Fg1 := hx4 Fg1 E
     replace Fg2 := hx4 Fg2 E
     replace FS := hxB FS E
     clear E hya hga
     rw [show (#[true, true, true, true, true, false, false, false] : Array Bool).setIfInBounds 6 true = #[true, true, true, true, true, false, true, false] from rfl]
     exact eb_3ga mkS cI hdone g1 g2 gs ga y1 X Fg1 Fg2 FS Gga Nga
   · exact Bars.nil

set_option maxRecDepth 100000 in
theorem eb_2ga {xak xan : Int} {xas : ByteArray} {xae : Int} {xbk xbn : Int} {xbs : ByteArray} {xbe : Int} {xvk xvn : Int} {xvs : ByteArray} {xve : Int} {W1 : World} {S : World → Prop} {Q : Exit → Act → World → Prop} {u0 u1 u2 u3 u4 u5 u6 u7 u9 u10 u11 u12 u13 u14 u15 u16 u17 u18 u23 u24 u25 u26 u27 u28 u29 u30 u31 u32 u33 u34 u35 u36 u37 u38 u39 u40 u41 u42 u43 u44 u45 u46 u47 u48 u49 u50 u51 u52 u53 u54 u55 u56 u57 u58 u59 u60 u61 u62 : Value} (mkS : Hid (∀ V, Ext W1 V → S V)) (cI : Hid (∀ V g, Ext W1 V → RdB V.heap.size V (.slice (some ⟨g, 0, none⟩) 2 2) [bgR ⟨xak, xan, xas, xae⟩, bgR ⟨xbk, xbn, xbs, xbe⟩] → Calls Tryz.prog 10 #[.string ⟨#[73, 70, 69, 82, 82, 79, 82]⟩, .slice (some ⟨g, 0, none⟩) 2 2] V fun e w' => e = .returned (.agg #[.int .i64 xvk, .int .i64 xvn, .string xvs, .int .i64 xve]) ∧ Ext V w')) (hdone : ∀ (g1 : Nat) (g2 : Nat) (gs : Nat)  (ga : Nat) (y : World), Hid (Ext W1 y) → Hid (Blk y ga (.int .i64 xvk) (.int .i64 xvn) (.string xvs) (.int .i64 xve)) → Hid (W1.heap.size ≤ ga) → Q .normal { tmps := #[u0, u1, u2, u3, u4, u5, u6, u7, (.pointer (some ⟨ga, 0, none⟩)), u9, u10, u11, u12, u13, u14, u15, u16, u17, u18, (.agg #[.int .i64 xak, .int .i64 xan, .string xas, .int .i64 xae]), (.agg #[.bool false, .int .i64 0, .int .i64 0, .slice (some ⟨g1, 0, none⟩) 1 1]), (.agg #[.int .i64 xbk, .int .i64 xbn, .string xbs, .int .i64 xbe]), (.agg #[.bool false, .int .i64 0, .int .i64 0, .slice (some ⟨g2, 0, none⟩) 1 1]), (.slice (some ⟨gs, 0, none⟩) 2 2), (.agg #[.int .i64 xvk, .int .i64 xvn, .string xvs, .int .i64 xve]), u25, u26, u27, u28, u29, u30, u31, u32, u33, u34, u35, u36, u37, u38, u39, u40, u41, u42, u43, u44, u45, u46, u47, u48, u49, u50, u51, u52, u53, u54, u55, u56, u57, u58, u59, u60, u61, u62], defers := [] } y) (g1 : Nat) (g2 : Nat) (ga : Nat) (y0 : World) (X : Hid (Ext W1 y0)) (Fg1 : Hid (Blk y0 g1 (.int .i64 xak) (.int .i64 xan) (.string xas) (.int .i64 xae))) (Fg2 : Hid (Blk y0 g2 (.int .i64 xbk) (.int .i64 xbn) (.string xbs) (.int .i64 xbe))) (Gga : Hid (Blk y0 ga (.int .i64 0) (.int .i64 0) (.string ⟨#[]⟩) (.int .i64 0))) (Nga : Hid (W1.heap.size ≤ ga)) :
   wpBar Tryz.prog .any ebO Q (fun _ => false) S 3 #[true, true, true, true, false, false, true, false] { tmps := #[u0, u1, u2, u3, u4, u5, u6, u7, (.pointer (some ⟨ga, 0, none⟩)), u9, u10, u11, u12, u13, u14, u15, u16, u17, u18, (.agg #[.int .i64 xak, .int .i64 xan, .string xas, .int .i64 xae]), (.agg #[.bool false, .int .i64 0, .int .i64 0, .slice (some ⟨g1, 0, none⟩) 1 1]), (.agg #[.int .i64 xbk, .int .i64 xbn, .string xbs, .int .i64 xbe]), (.agg #[.bool false, .int .i64 0, .int .i64 0, .slice (some ⟨g2, 0, none⟩) 1 1]), u23, u24, u25, u26, u27, u28, u29, u30, u31, u32, u33, u34, u35, u36, u37, u38, u39, u40, u41, u42, u43, u44, u45, u46, u47, u48, u49, u50, u51, u52, u53, u54, u55, u56, u57, u58, u59, u60, u61, u62], defers := [] } y0 := by
 unfold ebO
 refine bar_one (i := 4) (by kernel_rfl) rfl (fun KK hKK => ?_)
 go_simp
 refine hKK.out _ _ (fun _ => mkS.out _ (X.out.alloc _)) ?_
 clear hKK KK
 obtain ⟨y1, hya⟩ : ∃ ya, World.alloc y0 (.cells #[.bool false, .int .i64 0, .int .i64 0, .slice (some ⟨g1, 0, none⟩) 1 1, .bool false, .int .i64 0, .int .i64 0, .slice (some ⟨g2, 0, none⟩) 1 1] 31) = ya := ⟨_, rfl⟩
 obtain ⟨gs, hga⟩ : ∃ g, y0.heap.size = g := ⟨_, rfl⟩
 have E : Ext y0 y1 := by rw [← hya]; exact (Ext.refl _).alloc _
 have FS : Hid (RdB y1.heap.size y1 (.slice (some ⟨gs, 0, none⟩) 2 2) [bgR ⟨xak, xan, xas, xae⟩, bgR ⟨xbk, xbn, xbs, xbe⟩]) := by rw [← hya, ← hga]; exact args_2 rfl (Ext.refl _) (r0 := ⟨xak, xan, xas, xae⟩) (r1 := ⟨xbk, xbn, xbs, xbe⟩) Fg1.out Fg2.out
 rw [hya, hga]
 replace X : Hid (Ext W1 y1) := X.out.trans E
 replace Fg1 := hx4 Fg1 E
 replace Fg2 := hx4 Fg2 E
 replace Gga := hx4 Gga E
 clear E hya hga
 rw [show (#[true, true, true, true, false, false, true, false] : Array Bool).setIfInBounds 4 true = #[true, true, true, true, true, false, true, false] from rfl]
 exact eb_3ga mkS cI hdone g1 g2 gs ga y1 X Fg1 Fg2 FS Gga Nga

set_option maxRecDepth 100000 in
theorem eb_2 {xak xan : Int} {xas : ByteArray} {xae : Int} {xbk xbn : Int} {xbs : ByteArray} {xbe : Int} {xvk xvn : Int} {xvs : ByteArray} {xve : Int} {W1 : World} {S : World → Prop} {Q : Exit → Act → World → Prop} {u0 u1 u2 u3 u4 u5 u6 u7 u8 u9 u10 u11 u12 u13 u14 u15 u16 u17 u18 u23 u24 u25 u26 u27 u28 u29 u30 u31 u32 u33 u34 u35 u36 u37 u38 u39 u40 u41 u42 u43 u44 u45 u46 u47 u48 u49 u50 u51 u52 u53 u54 u55 u56 u57 u58 u59 u60 u61 u62 : Value} (mkS : Hid (∀ V, Ext W1 V → S V)) (cI : Hid (∀ V g, Ext W1 V → RdB V.heap.size V (.slice (some ⟨g, 0, none⟩) 2 2) [bgR ⟨xak, xan, xas, xae⟩, bgR ⟨xbk, xbn, xbs, xbe⟩] → Calls Tryz.prog 10 #[.string ⟨#[73, 70, 69, 82, 82, 79, 82]⟩, .slice (some ⟨g, 0, none⟩) 2 2] V fun e w' => e = .returned (.agg #[.int .i64 xvk, .int .i64 xvn, .string xvs, .int .i64 xve]) ∧ Ext V w')) (hdone : ∀ (g1 : Nat) (g2 : Nat) (gs : Nat)  (ga : Nat) (y : World), Hid (Ext W1 y) → Hid (Blk y ga (.int .i64 xvk) (.int .i64 xvn) (.string xvs) (.int .i64 xve)) → Hid (W1.heap.size ≤ ga) → Q .normal { tmps := #[u0, u1, u2, u3, u4, u5, u6, u7, (.pointer (some ⟨ga, 0, none⟩)), u9, u10, u11, u12, u13, u14, u15, u16, u17, u18, (.agg #[.int .i64 xak, .int .i64 xan, .string xas, .int .i64 xae]), (.agg #[.bool false, .int .i64 0, .int .i64 0, .slice (some ⟨g1, 0, none⟩) 1 1]), (.agg #[.int .i64 xbk, .int .i64 xbn, .string xbs, .int .i64 xbe]), (.agg #[.bool false, .int .i64 0, .int .i64 0, .slice (some ⟨g2, 0, none⟩) 1 1]), (.slice (some ⟨gs, 0, none⟩) 2 2), (.agg #[.int .i64 xvk, .int .i64 xvn, .string xvs, .int .i64 xve]), u25, u26, u27, u28, u29, u30, u31, u32, u33, u34, u35, u36, u37, u38, u39, u40, u41, u42, u43, u44, u45, u46, u47, u48, u49, u50, u51, u52, u53, u54, u55, u56, u57, u58, u59, u60, u61, u62], defers := [] } y) (g1 : Nat) (g2 : Nat)  (y0 : World) (X : Hid (Ext W1 y0)) (Fg1 : Hid (Blk y0 g1 (.int .i64 xak) (.int .i64 xan) (.string xas) (.int .i64 xae))) (Fg2 : Hid (Blk y0 g2 (.int .i64 xbk) (.int .i64 xbn) (.string xbs) (.int .i64 xbe))) :
   wpBar Tryz.prog .any ebO Q (fun _ => false) S 4 #[true, true, true, true, false, false, false, false] { tmps := #[u0, u1, u2, u3, u4, u5, u6, u7, u8, u9, u10, u11, u12, u13, u14, u15, u16, u17, u18, (.agg #[.int .i64 xak, .int .i64 xan, .string xas, .int .i64 xae]), (.agg #[.bool false, .int .i64 0, .int .i64 0, .slice (some ⟨g1, 0, none⟩) 1 1]), (.agg #[.int .i64 xbk, .int .i64 xbn, .string xbs, .int .i64 xbe]), (.agg #[.bool false, .int .i64 0, .int .i64 0, .slice (some ⟨g2, 0, none⟩) 1 1]), u23, u24, u25, u26, u27, u28, u29, u30, u31, u32, u33, u34, u35, u36, u37, u38, u39, u40, u41, u42, u43, u44, u45, u46, u47, u48, u49, u50, u51, u52, u53, u54, u55, u56, u57, u58, u59, u60, u61, u62], defers := [] } y0 := by
 unfold ebO
 refine bar_list (rs := [4, 6]) (by kernel_rfl) (by simp) ?_
 refine Bars.cons rfl (fun KK hKK => ?_) ?_
 · go_simp
   refine hKK.out _ _ (fun _ => mkS.out _ (X.out.alloc _)) ?_
   clear hKK KK
   obtain ⟨y1, hya⟩ : ∃ ya, World.alloc y0 (.cells #[.bool false, .int .i64 0, .int .i64 0, .slice (some ⟨g1, 0, none⟩) 1 1, .bool false, .int .i64 0, .int .i64 0, .slice (some ⟨g2, 0, none⟩) 1 1] 31) = ya := ⟨_, rfl⟩
   obtain ⟨gs, hga⟩ : ∃ g, y0.heap.size = g := ⟨_, rfl⟩
   have E : Ext y0 y1 := by rw [← hya]; exact (Ext.refl _).alloc _
   have FS : Hid (RdB y1.heap.size y1 (.slice (some ⟨gs, 0, none⟩) 2 2) [bgR ⟨xak, xan, xas, xae⟩, bgR ⟨xbk, xbn, xbs, xbe⟩]) := by rw [← hya, ← hga]; exact args_2 rfl (Ext.refl _) (r0 := ⟨xak, xan, xas, xae⟩) (r1 := ⟨xbk, xbn, xbs, xbe⟩) Fg1.out Fg2.out
   rw [hya, hga]
   replace X : Hid (Ext W1 y1) := X.out.trans E
   replace Fg1 := hx4 Fg1 E
   replace Fg2 := hx4 Fg2 E
   clear E hya hga
   rw [show (#[true, true, true, true, false, false, false, false] : Array Bool).setIfInBounds 4 true = #[true, true, true, true, true, false, false, false] from rfl]
   exact eb_3 mkS cI hdone g1 g2 gs  y1 X Fg1 Fg2 FS
 · refine Bars.cons rfl (fun KK hKK => ?_) ?_
   · go_simp
     refine hKK.out _ _ (fun _ => mkS.out _ (X.out.alloc _)) ?_
     clear hKK KK
     obtain ⟨y1, hya⟩ : ∃ ya, World.alloc y0 (.cells #[.int .i64 0, .int .i64 0, .string ⟨#[]⟩, .int .i64 0] 25) = ya := ⟨_, rfl⟩
     obtain ⟨ga, hga⟩ : ∃ g, y0.heap.size = g := ⟨_, rfl⟩
     have E : Ext y0 y1 := by rw [← hya]; exact (Ext.refl _).alloc _
     have Gga : Hid (Blk y1 ga (.int .i64 0) (.int .i64 0) (.string ⟨#[]⟩) (.int .i64 0)) := by rw [← hya, ← hga]; exact blk_top rfl (Ext.refl _)
     have Nga : Hid (W1.heap.size ≤ ga) := by show _ ≤ _; rw [← hga]; exact X.out.sz
     rw [hya, hga]
     replace X : Hid (Ext W1 y1) := X.out.trans E
     replace Fg1 := hx4 Fg1 E
     replace Fg2 := hx4 Fg2 E
     clear E hya hga
     rw [show (#[true, true, true, true, false, false, false, false] : Array Bool).setIfInBounds 6 true = #[true, true, true, true, false, false, true, false] from rfl]
     exact eb_2ga mkS cI hdone g1 g2 ga y1 X Fg1 Fg2 Gga Nga
   · exact Bars.nil

set_option maxRecDepth 100000 in
theorem eb_1ga {xak xan : Int} {xas : ByteArray} {xae : Int} {xbk xbn : Int} {xbs : ByteArray} {xbe : Int} {xvk xvn : Int} {xvs : ByteArray} {xve : Int} {W1 : World} {S : World → Prop} {Q : Exit → Act → World → Prop} {u0 u1 u2 u3 u4 u5 u6 u7 u9 u10 u11 u12 u13 u14 u15 u16 u17 u18 u22 u23 u24 u25 u26 u27 u28 u29 u30 u31 u32 u33 u34 u35 u36 u37 u38 u39 u40 u41 u42 u43 u44 u45 u46 u47 u48 u49 u50 u51 u52 u53 u54 u55 u56 u57 u58 u59 u60 u61 u62 : Value} (mkS : Hid (∀ V, Ext W1 V → S V)) (cI : Hid (∀ V g, Ext W1 V → RdB V.heap.size V (.slice (some ⟨g, 0, none⟩) 2 2) [bgR ⟨xak, xan, xas, xae⟩, bgR ⟨xbk, xbn, xbs, xbe⟩] → Calls Tryz.prog 10 #[.string ⟨#[73, 70, 69, 82, 82, 79, 82]⟩, .slice (some ⟨g, 0, none⟩) 2 2] V fun e w' => e = .returned (.agg #[.int .i64 xvk, .int .i64 xvn, .string xvs, .int .i64 xve]) ∧ Ext V w')) (hdone : ∀ (g1 : Nat) (g2 : Nat) (gs : Nat)  (ga : Nat) (y : World), Hid (Ext W1 y) → Hid (Blk y ga (.int .i64 xvk) (.int .i64 xvn) (.string xvs) (.int .i64 xve)) → Hid (W1.heap.size ≤ ga) → Q .normal { tmps := #[u0, u1, u2, u3, u4, u5, u6, u7, (.pointer (some ⟨ga, 0, none⟩)), u9, u10, u11, u12, u13, u14, u15, u16, u17, u18, (.agg #[.int .i64 xak, .int .i64 xan, .string xas, .int .i64 xae]), (.agg #[.bool false, .int .i64 0, .int .i64 0, .slice (some ⟨g1, 0, none⟩) 1 1]), (.agg #[.int .i64 xbk, .int .i64 xbn, .string xbs, .int .i64 xbe]), (.agg #[.bool false, .int .i64 0, .int .i64 0, .slice (some ⟨g2, 0, none⟩) 1 1]), (.slice (some ⟨gs, 0, none⟩) 2 2), (.agg #[.int .i64 xvk, .int .i64 xvn, .string xvs, .int .i64 xve]), u25, u26, u27, u28, u29, u30, u31, u32, u33, u34, u35, u36, u37, u38, u39, u40, u41, u42, u43, u44, u45, u46, u47, u48, u49, u50, u51, u52, u53, u54, u55, u56, u57, u58, u59, u60, u61, u62], defers := [] } y) (g1 : Nat) (ga : Nat) (y0 : World) (X : Hid (Ext W1 y0)) (Fg1 : Hid (Blk y0 g1 (.int .i64 xak) (.int .i64 xan) (.string xas) (.int .i64 xae))) (Gga : Hid (Blk y0 ga (.int .i64 0) (.int .i64 0) (.string ⟨#[]⟩) (.int .i64 0))) (Nga : Hid (W1.heap.size ≤ ga)) :
   wpBar Tryz.prog .any ebO Q (fun _ => false) S 4 #[true, true, true, false, false, false, true, false] { tmps := #[u0, u1, u2, u3, u4, u5, u6, u7, (.pointer (some ⟨ga, 0, none⟩)), u9, u10, u11, u12, u13, u14, u15, u16, u17, u18, (.agg #[.int .i64 xak, .int .i64 xan, .string xas, .int .i64 xae]), (.agg #[.bool false, .int .i64 0, .int .i64 0, .slice (some ⟨g1, 0, none⟩) 1 1]), (.agg #[.int .i64 xbk, .int .i64 xbn, .string xbs, .int .i64 xbe]), u22, u23, u24, u25, u26, u27, u28, u29, u30, u31, u32, u33, u34, u35, u36, u37, u38, u39, u40, u41, u42, u43, u44, u45, u46, u47, u48, u49, u50, u51, u52, u53, u54, u55, u56, u57, u58, u59, u60, u61, u62], defers := [] } y0 := by
 unfold ebO
 refine bar_one (i := 3) (by kernel_rfl) rfl (fun KK hKK => ?_)
 go_simp
 go_wp2_with (go_at_call 13; refine Calls.mono (of_any xbk xbn xbs xbe _) ?_; rintro e y1 ⟨g2, rfl, F, E⟩)
 have Fg2 : Hid (Blk y1 g2 (.int .i64 xbk) (.int .i64 xbn) (.string xbs) (.int .i64 xbe)) := F
 clear F
 replace X : Hid (Ext W1 y1) := X.out.trans E
 refine hKK.out _ _ (fun _ => mkS.out _ X.out) ?_
 clear hKK KK
 replace Fg1 := hx4 Fg1 E
 replace Gga := hx4 Gga E
 clear E
 rw [show (#[true, true, true, false, false, false, true, false] : Array Bool).setIfInBounds 3 true = #[true, true, true, true, false, false, true, false] from rfl]
 exact eb_2ga mkS cI hdone g1 g2 ga y1 X Fg1 Fg2 Gga Nga

set_option maxRecDepth 100000 in
theorem eb_1 {xak xan : Int} {xas : ByteArray} {xae : Int} {xbk xbn : Int} {xbs : ByteArray} {xbe : Int} {xvk xvn : Int} {xvs : ByteArray} {xve : Int} {W1 : World} {S : World → Prop} {Q : Exit → Act → World → Prop} {u0 u1 u2 u3 u4 u5 u6 u7 u8 u9 u10 u11 u12 u13 u14 u15 u16 u17 u18 u22 u23 u24 u25 u26 u27 u28 u29 u30 u31 u32 u33 u34 u35 u36 u37 u38 u39 u40 u41 u42 u43 u44 u45 u46 u47 u48 u49 u50 u51 u52 u53 u54 u55 u56 u57 u58 u59 u60 u61 u62 : Value} (mkS : Hid (∀ V, Ext W1 V → S V)) (cI : Hid (∀ V g, Ext W1 V → RdB V.heap.size V (.slice (some ⟨g, 0, none⟩) 2 2) [bgR ⟨xak, xan, xas, xae⟩, bgR ⟨xbk, xbn, xbs, xbe⟩] → Calls Tryz.prog 10 #[.string ⟨#[73, 70, 69, 82, 82, 79, 82]⟩, .slice (some ⟨g, 0, none⟩) 2 2] V fun e w' => e = .returned (.agg #[.int .i64 xvk, .int .i64 xvn, .string xvs, .int .i64 xve]) ∧ Ext V w')) (hdone : ∀ (g1 : Nat) (g2 : Nat) (gs : Nat)  (ga : Nat) (y : World), Hid (Ext W1 y) → Hid (Blk y ga (.int .i64 xvk) (.int .i64 xvn) (.string xvs) (.int .i64 xve)) → Hid (W1.heap.size ≤ ga) → Q .normal { tmps := #[u0, u1, u2, u3, u4, u5, u6, u7, (.pointer (some ⟨ga, 0, none⟩)), u9, u10, u11, u12, u13, u14, u15, u16, u17, u18, (.agg #[.int .i64 xak, .int .i64 xan, .string xas, .int .i64 xae]), (.agg #[.bool false, .int .i64 0, .int .i64 0, .slice (some ⟨g1, 0, none⟩) 1 1]), (.agg #[.int .i64 xbk, .int .i64 xbn, .string xbs, .int .i64 xbe]), (.agg #[.bool false, .int .i64 0, .int .i64 0, .slice (some ⟨g2, 0, none⟩) 1 1]), (.slice (some ⟨gs, 0, none⟩) 2 2), (.agg #[.int .i64 xvk, .int .i64 xvn, .string xvs, .int .i64 xve]), u25, u26, u27, u28, u29, u30, u31, u32, u33, u34, u35, u36, u37, u38, u39, u40, u41, u42, u43, u44, u45, u46, u47, u48, u49, u50, u51, u52, u53, u54, u55, u56, u57, u58, u59, u60, u61, u62], defers := [] } y) (g1 : Nat)  (y0 : World) (X : Hid (Ext W1 y0)) (Fg1 : Hid (Blk y0 g1 (.int .i64 xak) (.int .i64 xan) (.string xas) (.int .i64 xae))) :
   wpBar Tryz.prog .any ebO Q (fun _ => false) S 5 #[true, true, true, false, false, false, false, false] { tmps := #[u0, u1, u2, u3, u4, u5, u6, u7, u8, u9, u10, u11, u12, u13, u14, u15, u16, u17, u18, (.agg #[.int .i64 xak, .int .i64 xan, .string xas, .int .i64 xae]), (.agg #[.bool false, .int .i64 0, .int .i64 0, .slice (some ⟨g1, 0, none⟩) 1 1]), (.agg #[.int .i64 xbk, .int .i64 xbn, .string xbs, .int .i64 xbe]), u22, u23, u24, u25, u26, u27, u28, u29, u30, u31, u32, u33, u34, u35, u36, u37, u38, u39, u40, u41, u42, u43, u44, u45, u46, u47, u48, u49, u50, u51, u52, u53, u54, u55, u56, u57, u58, u59, u60, u61, u62], defers := [] } y0 := by
 unfold ebO
 refine bar_list (rs := [3, 6]) (by kernel_rfl) (by simp) ?_
 refine Bars.cons rfl (fun KK hKK => ?_) ?_
 · go_simp
   go_wp2_with (go_at_call 13; refine Calls.mono (of_any xbk xbn xbs xbe _) ?_; rintro e y1 ⟨g2, rfl, F, E⟩)
   have Fg2 : Hid (Blk y1 g2 (.int .i64 xbk) (.int .i64 xbn) (.string xbs) (.int .i64 xbe)) := F
   clear F
   replace X : Hid (Ext W1 y1) := X.out.trans E
   refine hKK.out _ _ (fun _ => mkS.out _ X.out) ?_
   clear hKK KK
   replace Fg1 := hx4 Fg1 E
   clear E
   rw [show (#[true, true, true, false, false, false, false, false] : Array Bool).setIfInBounds 3 true = #[true, true, true, true, false, false, false, false] from rfl]
   exact eb_2 mkS cI hdone g1 g2  y1 X Fg1 Fg2
 · refine Bars.cons rfl (fun KK hKK => ?_) ?_
   · go_simp
     refine hKK.out _ _ (fun _ => mkS.out _ (X.out.alloc _)) ?_
     clear hKK KK
     obtain ⟨y1, hya⟩ : ∃ ya, World.alloc y0 (.cells #[.int .i64 0, .int .i64 0, .string ⟨#[]⟩, .int .i64 0] 25) = ya := ⟨_, rfl⟩
     obtain ⟨ga, hga⟩ : ∃ g, y0.heap.size = g := ⟨_, rfl⟩
     have E : Ext y0 y1 := by rw [← hya]; exact (Ext.refl _).alloc _
     have Gga : Hid (Blk y1 ga (.int .i64 0) (.int .i64 0) (.string ⟨#[]⟩) (.int .i64 0)) := by rw [← hya, ← hga]; exact blk_top rfl (Ext.refl _)
     have Nga : Hid (W1.heap.size ≤ ga) := by show _ ≤ _; rw [← hga]; exact X.out.sz
     rw [hya, hga]
     replace X : Hid (Ext W1 y1) := X.out.trans E
     replace Fg1 := hx4 Fg1 E
     clear E hya hga
     rw [show (#[true, true, true, false, false, false, false, false] : Array Bool).setIfInBounds 6 true = #[true, true, true, false, false, false, true, false] from rfl]
     exact eb_1ga mkS cI hdone g1 ga y1 X Fg1 Gga Nga
   · exact Bars.nil

set_option maxRecDepth 100000 in
theorem eb_0ga {xak xan : Int} {xas : ByteArray} {xae : Int} {xbk xbn : Int} {xbs : ByteArray} {xbe : Int} {xvk xvn : Int} {xvs : ByteArray} {xve : Int} {W1 : World} {S : World → Prop} {Q : Exit → Act → World → Prop} {u0 u1 u2 u3 u4 u5 u6 u7 u9 u10 u11 u12 u13 u14 u15 u16 u17 u18 u20 u22 u23 u24 u25 u26 u27 u28 u29 u30 u31 u32 u33 u34 u35 u36 u37 u38 u39 u40 u41 u42 u43 u44 u45 u46 u47 u48 u49 u50 u51 u52 u53 u54 u55 u56 u57 u58 u59 u60 u61 u62 : Value} (mkS : Hid (∀ V, Ext W1 V → S V)) (cI : Hid (∀ V g, Ext W1 V → RdB V.heap.size V (.slice (some ⟨g, 0, none⟩) 2 2) [bgR ⟨xak, xan, xas, xae⟩, bgR ⟨xbk, xbn, xbs, xbe⟩] → Calls Tryz.prog 10 #[.string ⟨#[73, 70, 69, 82, 82, 79, 82]⟩, .slice (some ⟨g, 0, none⟩) 2 2] V fun e w' => e = .returned (.agg #[.int .i64 xvk, .int .i64 xvn, .string xvs, .int .i64 xve]) ∧ Ext V w')) (hdone : ∀ (g1 : Nat) (g2 : Nat) (gs : Nat)  (ga : Nat) (y : World), Hid (Ext W1 y) → Hid (Blk y ga (.int .i64 xvk) (.int .i64 xvn) (.string xvs) (.int .i64 xve)) → Hid (W1.heap.size ≤ ga) → Q .normal { tmps := #[u0, u1, u2, u3, u4, u5, u6, u7, (.pointer (some ⟨ga, 0, none⟩)), u9, u10, u11, u12, u13, u14, u15, u16, u17, u18, (.agg #[.int .i64 xak, .int .i64 xan, .string xas, .int .i64 xae]), (.agg #[.bool false, .int .i64 0, .int .i64 0, .slice (some ⟨g1, 0, none⟩) 1 1]), (.agg #[.int .i64 xbk, .int .i64 xbn, .string xbs, .int .i64 xbe]), (.agg #[.bool false, .int .i64 0, .int .i64 0, .slice (some ⟨g2, 0, none⟩) 1 1]), (.slice (some ⟨gs, 0, none⟩) 2 2), (.agg #[.int .i64 xvk, .int .i64 xvn, .string xvs, .int .i64 xve]), u25, u26, u27, u28, u29, u30, u31, u32, u33, u34, u35, u36, u37, u38, u39, u40, u41, u42, u43, u44, u45, u46, u47, u48, u49, u50, u51, u52, u53, u54, u55, u56, u57, u58, u59, u60, u61, u62], defers := [] } y)  (ga : Nat) (y0 : World) (X : Hid (Ext W1 y0)) (Gga : Hid (Blk y0 ga (.int .i64 0) (.int .i64 0) (.string ⟨#[]⟩) (.int .i64 0))) (Nga : Hid (W1.heap.size ≤ ga)) :
   wpBar Tryz.prog .any ebO Q (fun _ => false) S 5 #[true, false, true, false, false, false, true, false] { tmps := #[u0, u1, u2, u3, u4, u5, u6, u7, (.pointer (some ⟨ga, 0, none⟩)), u9, u10, u11, u12, u13, u14, u15, u16, u17, u18, (.agg #[.int .i64 xak, .int .i64 xan, .string xas, .int .i64 xae]), u20, (.agg #[.int .i64 xbk, .int .i64 xbn, .string xbs, .int .i64 xbe]), u22, u23, u24, u25, u26, u27, u28, u29, u30, u31, u32, u33, u34, u35, u36, u37, u38, u39, u40, u41, u42, u43, u44, u45, u46, u47, u48, u49, u50, u51, u52, u53, u54, u55, u56, u57, u58, u59, u60, u61, u62], defers := [] } y0 := by
 unfold ebO
 refine bar_one (i := 1) (by kernel_rfl) rfl (fun KK hKK => ?_)
 go_simp
 go_wp2_with (go_at_call 13; refine Calls.mono (of_any xak xan xas xae _) ?_; rintro e y1 ⟨g1, rfl, F, E⟩)
 have Fg1 : Hid (Blk y1 g1 (.int .i64 xak) (.int .i64 xan) (.string xas) (.int .i64 xae)) := F
 clear F
 replace X : Hid (Ext W1 y1) := X.out.trans E
 refine hKK.out _ _ (fun _ => mkS.out _ X.out) ?_
 clear hKK KK
 replace Gga := hx4 Gga E
 clear E
 rw [show (#[true, false, true, false, false, false, true, false] : Array Bool).setIfInBounds 1 true = #[true, true, true, false, false, false, true, false] from rfl]
 exact eb_1ga mkS cI hdone g1 ga y1 X Fg1 Gga Nga

set_option maxRecDepth 100000 in
theorem eb_0 {xak xan : Int} {xas : ByteArray} {xae : Int} {xbk xbn : Int} {xbs : ByteArray} {xbe : Int} {xvk xvn : Int} {xvs : ByteArray} {xve : Int} {W1 : World} {S : World → Prop} {Q : Exit → Act → World → Prop} {u0 u1 u2 u3 u4 u5 u6 u7 u8 u9 u10 u11 u12 u13 u14 u15 u16 u17 u18 u20 u22 u23 u24 u25 u26 u27 u28 u29 u30 u31 u32 u33 u34 u35 u36 u37 u38 u39 u40 u41 u42 u43 u44 u45 u46 u47 u48 u49 u50 u51 u52 u53 u54 u55 u56 u57 u58 u59 u60 u61 u62 : Value} (mkS : Hid (∀ V, Ext W1 V → S V)) (cI : Hid (∀ V g, Ext W1 V → RdB V.heap.size V (.slice (some ⟨g, 0, none⟩) 2 2) [bgR ⟨xak, xan, xas, xae⟩, bgR ⟨xbk, xbn, xbs, xbe⟩] → Calls Tryz.prog 10 #[.string ⟨#[73, 70, 69, 82, 82, 79, 82]⟩, .slice (some ⟨g, 0, none⟩) 2 2] V fun e w' => e = .returned (.agg #[.int .i64 xvk, .int .i64 xvn, .string xvs, .int .i64 xve]) ∧ Ext V w')) (hdone : ∀ (g1 : Nat) (g2 : Nat) (gs : Nat)  (ga : Nat) (y : World), Hid (Ext W1 y) → Hid (Blk y ga (.int .i64 xvk) (.int .i64 xvn) (.string xvs) (.int .i64 xve)) → Hid (W1.heap.size ≤ ga) → Q .normal { tmps := #[u0, u1, u2, u3, u4, u5, u6, u7, (.pointer (some ⟨ga, 0, none⟩)), u9, u10, u11, u12, u13, u14, u15, u16, u17, u18, (.agg #[.int .i64 xak, .int .i64 xan, .string xas, .int .i64 xae]), (.agg #[.bool false, .int .i64 0, .int .i64 0, .slice (some ⟨g1, 0, none⟩) 1 1]), (.agg #[.int .i64 xbk, .int .i64 xbn, .string xbs, .int .i64 xbe]), (.agg #[.bool false, .int .i64 0, .int .i64 0, .slice (some ⟨g2, 0, none⟩) 1 1]), (.slice (some ⟨gs, 0, none⟩) 2 2), (.agg #[.int .i64 xvk, .int .i64 xvn, .string xvs, .int .i64 xve]), u25, u26, u27, u28, u29, u30, u31, u32, u33, u34, u35, u36, u37, u38, u39, u40, u41, u42, u43, u44, u45, u46, u47, u48, u49, u50, u51, u52, u53, u54, u55, u56, u57, u58, u59, u60, u61, u62], defers := [] } y)   (y0 : World) (X : Hid (Ext W1 y0)) :
   wpBar Tryz.prog .any ebO Q (fun _ => false) S 6 #[true, false, true, false, false, false, false, false] { tmps := #[u0, u1, u2, u3, u4, u5, u6, u7, u8, u9, u10, u11, u12, u13, u14, u15, u16, u17, u18, (.agg #[.int .i64 xak, .int .i64 xan, .string xas, .int .i64 xae]), u20, (.agg #[.int .i64 xbk, .int .i64 xbn, .string xbs, .int .i64 xbe]), u22, u23, u24, u25, u26, u27, u28, u29, u30, u31, u32, u33, u34, u35, u36, u37, u38, u39, u40, u41, u42, u43, u44, u45, u46, u47, u48, u49, u50, u51, u52, u53, u54, u55, u56, u57, u58, u59, u60, u61, u62], defers := [] } y0 := by
 unfold ebO
 refine bar_list (rs := [1, 6]) (by kernel_rfl) (by simp) ?_
 refine Bars.cons rfl (fun KK hKK => ?_) ?_
 · go_simp
   go_wp2_with (go_at_call 13; refine Calls.mono (of_any xak xan xas xae _) ?_; rintro e y1 ⟨g1, rfl, F, E⟩)
   have Fg1 : Hid (Blk y1 g1 (.int .i64 xak) (.int .i64 xan) (.string xas) (.int .i64 xae)) := F
   clear F
   replace X : Hid (Ext W1 y1) := X.out.trans E
   refine hKK.out _ _ (fun _ => mkS.out _ X.out) ?_
   clear hKK KK
   clear E
   rw [show (#[true, false, true, false, false, false, false, false] : Array Bool).setIfInBounds 1 true = #[true, true, true, false, false, false, false, false] from rfl]
   exact eb_1 mkS cI hdone g1  y1 X Fg1
 · refine Bars.cons rfl (fun KK hKK => ?_) ?_
   · go_simp
     refine hKK.out _ _ (fun _ => mkS.out _ (X.out.alloc _)) ?_
     clear hKK KK
     obtain ⟨y1, hya⟩ : ∃ ya, World.alloc y0 (.cells #[.int .i64 0, .int .i64 0, .string ⟨#[]⟩, .int .i64 0] 25) = ya := ⟨_, rfl⟩
     obtain ⟨ga, hga⟩ : ∃ g, y0.heap.size = g := ⟨_, rfl⟩
     have E : Ext y0 y1 := by rw [← hya]; exact (Ext.refl _).alloc _
     have Gga : Hid (Blk y1 ga (.int .i64 0) (.int .i64 0) (.string ⟨#[]⟩) (.int .i64 0)) := by rw [← hya, ← hga]; exact blk_top rfl (Ext.refl _)
     have Nga : Hid (W1.heap.size ≤ ga) := by show _ ≤ _; rw [← hga]; exact X.out.sz
     rw [hya, hga]
     replace X : Hid (Ext W1 y1) := X.out.trans E
     clear E hya hga
     rw [show (#[true, false, true, false, false, false, false, false] : Array Bool).setIfInBounds 6 true = #[true, false, true, false, false, false, true, false] from rfl]
     exact eb_0ga mkS cI hdone  ga y1 X Gga Nga
   · exact Bars.nil

def ecO : Array Oper := #[⟨some 25, .load 25 (.tmp 3), 25, "law.go:42", #[], none⟩, ⟨some 26, .call { callee := .value (.func 14), args := #[.tmp 25], argTypes := #[25] }, 25, "law.go:42", #[⟨0, .data⟩], none⟩, ⟨some 27, .load 25 (.tmp 4), 25, "law.go:42", #[], none⟩, ⟨some 28, .call { callee := .value (.func 14), args := #[.tmp 27], argTypes := #[25] }, 25, "law.go:42", #[⟨2, .data⟩, ⟨1, .chain⟩], none⟩, ⟨some 9, .alloc 25, 0, "law.go:42", #[], none⟩, ⟨some 10, .alloc 25, 0, "law.go:42", #[], none⟩, ⟨none, .store 25 (.tmp 9) (.tmp 26), 0, "law.go:42", #[⟨4, .data⟩, ⟨1, .data⟩, ⟨3, .chain⟩, ⟨0, .phase⟩, ⟨1, .phase⟩, { on := 2, ground := Ground.textOnly Departure.lateStores }, { on := 3, ground := Ground.textOnly Departure.lateStoresUnsure }, ⟨4, .phase⟩, ⟨5, .phase⟩], none⟩, ⟨none, .store 25 (.tmp 10) (.tmp 28), 0, "law.go:42", #[⟨5, .data⟩, ⟨3, .data⟩, ⟨6, .chain⟩, ⟨0, .phase⟩, ⟨1, .phase⟩, ⟨2, .phase⟩, ⟨3, .phase⟩, ⟨4, .phase⟩, ⟨5, .phase⟩, ⟨6, .phase⟩], none⟩]

set_option maxRecDepth 100000 in
theorem ec_2gagb {xak xan : Int} {xas : ByteArray} {xae : Int} {xbk xbn : Int} {xbs : ByteArray} {xbe : Int} {xvk xvn : Int} {xvs : ByteArray} {xve : Int} {xuk xun : Int} {xus : ByteArray} {xue : Int} {W1 : World} {S : World → Prop} {Q : Exit → Act → World → Prop} {u0 u1 u2 u3 u4 u5 u6 u7 u8 u11 u12 u13 u14 u15 u16 u17 u18 u19 u20 u21 u22 u23 u24 u29 u30 u31 u32 u33 u34 u35 u36 u37 u38 u39 u40 u41 u42 u43 u44 u45 u46 u47 u48 u49 u50 u51 u52 u53 u54 u55 u56 u57 u58 u59 u60 u61 u62 : Value} (mkS : Hid (∀ V, Ext W1 V → S V)) (_cA : Hid (∀ V, Calls Tryz.prog 14 #[.agg #[.int .i64 xak, .int .i64 xan, .string xas, .int .i64 xae]] V fun e w' => e = .returned (.agg #[.int .i64 xvk, .int .i64 xvn, .string xvs, .int .i64 xve]) ∧ Ext V w')) (_cB : Hid (∀ V, Calls Tryz.prog 14 #[.agg #[.int .i64 xbk, .int .i64 xbn, .string xbs, .int .i64 xbe]] V fun e w' => e = .returned (.agg #[.int .i64 xuk, .int .i64 xun, .string xus, .int .i64 xue]) ∧ Ext V w')) (hdone : ∀   (ga : Nat) (gb : Nat) (y : World), Hid (Ext W1 y) → Hid (Blk y ga (.int .i64 xvk) (.int .i64 xvn) (.string xvs) (.int .i64 xve)) → Hid (Blk y gb (.int .i64 xuk) (.int .i64 xun) (.string xus) (.int .i64 xue)) → Hid (W1.heap.size ≤ ga) → Hid (W1.heap.size ≤ gb) → Hid (ga ≠ gb) → Q .normal { tmps := #[u0, u1, u2, u3, u4, u5, u6, u7, u8, (.pointer (some ⟨ga, 0, none⟩)), (.pointer (some ⟨gb, 0, none⟩)), u11, u12, u13, u14, u15, u16, u17, u18, u19, u20, u21, u22, u23, u24, (.agg #[.int .i64 xak, .int .i64 xan, .string xas, .int .i64 xae]), (.agg #[.int .i64 xvk, .int .i64 xvn, .string xvs, .int .i64 xve]), (.agg #[.int .i64 xbk, .int .i64 xbn, .string xbs, .int .i64 xbe]), (.agg #[.int .i64 xuk, .int .i64 xun, .string xus, .int .i64 xue]), u29, u30, u31, u32, u33, u34, u35, u36, u37, u38, u39, u40, u41, u42, u43, u44, u45, u46, u47, u48, u49, u50, u51, u52, u53, u54, u55, u56, u57, u58, u59, u60, u61, u62], defers := [] } y)   (ga : Nat) (gb : Nat) (y0 : World) (X : Hid (Ext W1 y0)) (Gga : Hid (Blk y0 ga (.int .i64 0) (.int .i64 0) (.string ⟨#[]⟩) (.int .i64 0))) (Nga : Hid (W1.heap.size ≤ ga)) (Ggb : Hid (Blk y0 gb (.int .i64 0) (.int .i64 0) (.string ⟨#[]⟩) (.int .i64 0))) (Ngb : Hid (W1.heap.size ≤ gb)) (HD : Hid (ga ≠ gb)) :
   wpBar Tryz.prog .any ecO Q (fun _ => false) S 2 #[true, true, true, true, true, true, false, false] { tmps := #[u0, u1, u2, u3, u4, u5, u6, u7, u8, (.pointer (some ⟨ga, 0, none⟩)), (.pointer (some ⟨gb, 0, none⟩)), u11, u12, u13, u14, u15, u16, u17, u18, u19, u20, u21, u22, u23, u24, (.agg #[.int .i64 xak, .int .i64 xan, .string xas, .int .i64 xae]), (.agg #[.int .i64 xvk, .int .i64 xvn, .string xvs, .int .i64 xve]), (.agg #[.int .i64 xbk, .int .i64 xbn, .string xbs, .int .i64 xbe]), (.agg #[.int .i64 xuk, .int .i64 xun, .string xus, .int .i64 xue]), u29, u30, u31, u32, u33, u34, u35, u36, u37, u38, u39, u40, u41, u42, u43, u44, u45, u46, u47, u48, u49, u50, u51, u52, u53, u54, u55, u56, u57, u58, u59, u60, u61, u62], defers := [] } y0 := by
 unfold ecO
 obtain ⟨za, ⟨a0, a1, a2, a3⟩, af0, af1, af2, af3⟩ := Gga.out
 refine bar_one (i := 6) (by kernel_rfl) rfl (fun KK hKK => ?_)
 go_simp
 have EP : Hid (Ext W1 ((((y0.setCell ⟨ga, 0, none⟩ (.int .i64 xvk)).setCell ⟨ga, 1, none⟩ (.int .i64 xvn)).setCell ⟨ga, 2, none⟩ (.string xvs)).setCell ⟨ga, 3, none⟩ (.int .i64 xve))) := (((X.out.setCell (p := ⟨ga, 0, none⟩) Nga.out _).setCell (p := ⟨ga, 1, none⟩) Nga.out _).setCell (p := ⟨ga, 2, none⟩) Nga.out _).setCell (p := ⟨ga, 3, none⟩) Nga.out _
 refine hKK.out _ ((((y0.setCell ⟨ga, 0, none⟩ (.int .i64 xvk)).setCell ⟨ga, 1, none⟩ (.int .i64 xvn)).setCell ⟨ga, 2, none⟩ (.string xvs)).setCell ⟨ga, 3, none⟩ (.int .i64 xve)) (fun _ => mkS.out _ EP.out) ?_
 clear hKK KK za a0 a1 a2 a3 af0 af1 af2 af3
 replace Gga : Hid (Blk ((((y0.setCell ⟨ga, 0, none⟩ (.int .i64 xvk)).setCell ⟨ga, 1, none⟩ (.int .i64 xvn)).setCell ⟨ga, 2, none⟩ (.string xvs)).setCell ⟨ga, 3, none⟩ (.int .i64 xve)) ga (.int .i64 xvk) (.int .i64 xvn) (.string xvs) (.int .i64 xve)) := Gga.out.set _ _ _ _
 replace Ggb : Hid (Blk ((((y0.setCell ⟨ga, 0, none⟩ (.int .i64 xvk)).setCell ⟨ga, 1, none⟩ (.int .i64 xvn)).setCell ⟨ga, 2, none⟩ (.string xvs)).setCell ⟨ga, 3, none⟩ (.int .i64 xve)) gb (.int .i64 0) (.int .i64 0) (.string ⟨#[]⟩) (.int .i64 0)) := Ggb.out.far HD.out _ _ _ _
 replace X := EP
 clear EP
 generalize (((y0.setCell ⟨ga, 0, none⟩ (.int .i64 xvk)).setCell ⟨ga, 1, none⟩ (.int .i64 xvn)).setCell ⟨ga, 2, none⟩ (.string xvs)).setCell ⟨ga, 3, none⟩ (.int .i64 xve) = w2 at *
 rw [show (#[true, true, true, true, true, true, false, false] : Array Bool).setIfInBounds 6 true = #[true, true, true, true, true, true, true, false] from rfl]
 obtain ⟨za, ⟨a0, a1, a2, a3⟩, af0, af1, af2, af3⟩ := Ggb.out
 refine bar_one (i := 7) (by kernel_rfl) rfl (fun KK hKK => ?_)
 go_simp
 have EP : Hid (Ext W1 ((((w2.setCell ⟨gb, 0, none⟩ (.int .i64 xuk)).setCell ⟨gb, 1, none⟩ (.int .i64 xun)).setCell ⟨gb, 2, none⟩ (.string xus)).setCell ⟨gb, 3, none⟩ (.int .i64 xue))) := (((X.out.setCell (p := ⟨gb, 0, none⟩) Ngb.out _).setCell (p := ⟨gb, 1, none⟩) Ngb.out _).setCell (p := ⟨gb, 2, none⟩) Ngb.out _).setCell (p := ⟨gb, 3, none⟩) Ngb.out _
 refine hKK.out _ ((((w2.setCell ⟨gb, 0, none⟩ (.int .i64 xuk)).setCell ⟨gb, 1, none⟩ (.int .i64 xun)).setCell ⟨gb, 2, none⟩ (.string xus)).setCell ⟨gb, 3, none⟩ (.int .i64 xue)) (fun _ => mkS.out _ EP.out) ?_
 clear hKK KK za a0 a1 a2 a3 af0 af1 af2 af3
 replace Ggb : Hid (Blk ((((w2.setCell ⟨gb, 0, none⟩ (.int .i64 xuk)).setCell ⟨gb, 1, none⟩ (.int .i64 xun)).setCell ⟨gb, 2, none⟩ (.string xus)).setCell ⟨gb, 3, none⟩ (.int .i64 xue)) gb (.int .i64 xuk) (.int .i64 xun) (.string xus) (.int .i64 xue)) := Ggb.out.set _ _ _ _
 replace Gga : Hid (Blk ((((w2.setCell ⟨gb, 0, none⟩ (.int .i64 xuk)).setCell ⟨gb, 1, none⟩ (.int .i64 xun)).setCell ⟨gb, 2, none⟩ (.string xus)).setCell ⟨gb, 3, none⟩ (.int .i64 xue)) ga (.int .i64 xvk) (.int .i64 xvn) (.string xvs) (.int .i64 xve)) := Gga.out.far (Ne.symm HD.out) _ _ _ _
 replace X := EP
 clear EP
 generalize (((w2.setCell ⟨gb, 0, none⟩ (.int .i64 xuk)).setCell ⟨gb, 1, none⟩ (.int .i64 xun)).setCell ⟨gb, 2, none⟩ (.string xus)).setCell ⟨gb, 3, none⟩ (.int .i64 xue) = w3 at *
 rw [show (#[true, true, true, true, true, true, true, false] : Array Bool).setIfInBounds 7 true = #[true, true, true, true, true, true, true, true] from rfl]
 refine bar_done (by kernel_rfl) ?_ _
 exact hdone   ga gb w3 X Gga Ggb Nga Ngb HD

set_option maxRecDepth 100000 in
theorem ec_2ga {xak xan : Int} {xas : ByteArray} {xae : Int} {xbk xbn : Int} {xbs : ByteArray} {xbe : Int} {xvk xvn : Int} {xvs : ByteArray} {xve : Int} {xuk xun : Int} {xus : ByteArray} {xue : Int} {W1 : World} {S : World → Prop} {Q : Exit → Act → World → Prop} {u0 u1 u2 u3 u4 u5 u6 u7 u8 u10 u11 u12 u13 u14 u15 u16 u17 u18 u19 u20 u21 u22 u23 u24 u29 u30 u31 u32 u33 u34 u35 u36 u37 u38 u39 u40 u41 u42 u43 u44 u45 u46 u47 u48 u49 u50 u51 u52 u53 u54 u55 u56 u57 u58 u59 u60 u61 u62 : Value} (mkS : Hid (∀ V, Ext W1 V → S V)) (cA : Hid (∀ V, Calls Tryz.prog 14 #[.agg #[.int .i64 xak, .int .i64 xan, .string xas, .int .i64 xae]] V fun e w' => e = .returned (.agg #[.int .i64 xvk, .int .i64 xvn, .string xvs, .int .i64 xve]) ∧ Ext V w')) (cB : Hid (∀ V, Calls Tryz.prog 14 #[.agg #[.int .i64 xbk, .int .i64 xbn, .string xbs, .int .i64 xbe]] V fun e w' => e = .returned (.agg #[.int .i64 xuk, .int .i64 xun, .string xus, .int .i64 xue]) ∧ Ext V w')) (hdone : ∀   (ga : Nat) (gb : Nat) (y : World), Hid (Ext W1 y) → Hid (Blk y ga (.int .i64 xvk) (.int .i64 xvn) (.string xvs) (.int .i64 xve)) → Hid (Blk y gb (.int .i64 xuk) (.int .i64 xun) (.string xus) (.int .i64 xue)) → Hid (W1.heap.size ≤ ga) → Hid (W1.heap.size ≤ gb) → Hid (ga ≠ gb) → Q .normal { tmps := #[u0, u1, u2, u3, u4, u5, u6, u7, u8, (.pointer (some ⟨ga, 0, none⟩)), (.pointer (some ⟨gb, 0, none⟩)), u11, u12, u13, u14, u15, u16, u17, u18, u19, u20, u21, u22, u23, u24, (.agg #[.int .i64 xak, .int .i64 xan, .string xas, .int .i64 xae]), (.agg #[.int .i64 xvk, .int .i64 xvn, .string xvs, .int .i64 xve]), (.agg #[.int .i64 xbk, .int .i64 xbn, .string xbs, .int .i64 xbe]), (.agg #[.int .i64 xuk, .int .i64 xun, .string xus, .int .i64 xue]), u29, u30, u31, u32, u33, u34, u35, u36, u37, u38, u39, u40, u41, u42, u43, u44, u45, u46, u47, u48, u49, u50, u51, u52, u53, u54, u55, u56, u57, u58, u59, u60, u61, u62], defers := [] } y)   (ga : Nat) (y0 : World) (X : Hid (Ext W1 y0)) (Gga : Hid (Blk y0 ga (.int .i64 0) (.int .i64 0) (.string ⟨#[]⟩) (.int .i64 0))) (Nga : Hid (W1.heap.size ≤ ga)) :
   wpBar Tryz.prog .any ecO Q (fun _ => false) S 3 #[true, true, true, true, true, false, false, false] { tmps := #[u0, u1, u2, u3, u4, u5, u6, u7, u8, (.pointer (some ⟨ga, 0, none⟩)), u10, u11, u12, u13, u14, u15, u16, u17, u18, u19, u20, u21, u22, u23, u24, (.agg #[.int .i64 xak, .int .i64 xan, .string xas, .int .i64 xae]), (.agg #[.int .i64 xvk, .int .i64 xvn, .string xvs, .int .i64 xve]), (.agg #[.int .i64 xbk, .int .i64 xbn, .string xbs, .int .i64 xbe]), (.agg #[.int .i64 xuk, .int .i64 xun, .string xus, .int .i64 xue]), u29, u30, u31, u32, u33, u34, u35, u36, u37, u38, u39, u40, u41, u42, u43, u44, u45, u46, u47, u48, u49, u50, u51, u52, u53, u54, u55, u56, u57, u58, u59, u60, u61, u62], defers := [] } y0 := by
 unfold ecO
 refine bar_one (i := 5) (by kernel_rfl) rfl (fun KK hKK => ?_)
 go_simp
 refine hKK.out _ _ (fun _ => mkS.out _ (X.out.alloc _)) ?_
 clear hKK KK
 obtain ⟨y1, hya⟩ : ∃ ya, World.alloc y0 (.cells #[.int .i64 0, .int .i64 0, .string ⟨#[]⟩, .int .i64 0] 25) = ya := ⟨_, rfl⟩
 obtain ⟨gb, hga⟩ : ∃ g, y0.heap.size = g := ⟨_, rfl⟩
 have E : Ext y0 y1 := by rw [← hya]; exact (Ext.refl _).alloc _
 have Ggb : Hid (Blk y1 gb (.int .i64 0) (.int .i64 0) (.string ⟨#[]⟩) (.int .i64 0)) := by rw [← hya, ← hga]; exact blk_top rfl (Ext.refl _)
 have Ngb : Hid (W1.heap.size ≤ gb) := by show _ ≤ _; rw [← hga]; exact X.out.sz
 have HD : Hid (ga ≠ gb) := by show _ ≠ _; have := Gga.out.1; rw [hga] at this; omega
 rw [hya, hga]
 replace X : Hid (Ext W1 y1) := X.out.trans E
 replace Gga := hx4 Gga E
 clear E hya hga
 rw [show (#[true, true, true, true, true, false, false, false] : Array Bool).setIfInBounds 5 true = #[true, true, true, true, true, true, false, false] from rfl]
 exact ec_2gagb mkS cA cB hdone   ga gb y1 X Gga Nga Ggb Ngb HD

set_option maxRecDepth 100000 in
theorem ec_2gb {xak xan : Int} {xas : ByteArray} {xae : Int} {xbk xbn : Int} {xbs : ByteArray} {xbe : Int} {xvk xvn : Int} {xvs : ByteArray} {xve : Int} {xuk xun : Int} {xus : ByteArray} {xue : Int} {W1 : World} {S : World → Prop} {Q : Exit → Act → World → Prop} {u0 u1 u2 u3 u4 u5 u6 u7 u8 u9 u11 u12 u13 u14 u15 u16 u17 u18 u19 u20 u21 u22 u23 u24 u29 u30 u31 u32 u33 u34 u35 u36 u37 u38 u39 u40 u41 u42 u43 u44 u45 u46 u47 u48 u49 u50 u51 u52 u53 u54 u55 u56 u57 u58 u59 u60 u61 u62 : Value} (mkS : Hid (∀ V, Ext W1 V → S V)) (cA : Hid (∀ V, Calls Tryz.prog 14 #[.agg #[.int .i64 xak, .int .i64 xan, .string xas, .int .i64 xae]] V fun e w' => e = .returned (.agg #[.int .i64 xvk, .int .i64 xvn, .string xvs, .int .i64 xve]) ∧ Ext V w')) (cB : Hid (∀ V, Calls Tryz.prog 14 #[.agg #[.int .i64 xbk, .int .i64 xbn, .string xbs, .int .i64 xbe]] V fun e w' => e = .returned (.agg #[.int .i64 xuk, .int .i64 xun, .string xus, .int .i64 xue]) ∧ Ext V w')) (hdone : ∀   (ga : Nat) (gb : Nat) (y : World), Hid (Ext W1 y) → Hid (Blk y ga (.int .i64 xvk) (.int .i64 xvn) (.string xvs) (.int .i64 xve)) → Hid (Blk y gb (.int .i64 xuk) (.int .i64 xun) (.string xus) (.int .i64 xue)) → Hid (W1.heap.size ≤ ga) → Hid (W1.heap.size ≤ gb) → Hid (ga ≠ gb) → Q .normal { tmps := #[u0, u1, u2, u3, u4, u5, u6, u7, u8, (.pointer (some ⟨ga, 0, none⟩)), (.pointer (some ⟨gb, 0, none⟩)), u11, u12, u13, u14, u15, u16, u17, u18, u19, u20, u21, u22, u23, u24, (.agg #[.int .i64 xak, .int .i64 xan, .string xas, .int .i64 xae]), (.agg #[.int .i64 xvk, .int .i64 xvn, .string xvs, .int .i64 xve]), (.agg #[.int .i64 xbk, .int .i64 xbn, .string xbs, .int .i64 xbe]), (.agg #[.int .i64 xuk, .int .i64 xun, .string xus, .int .i64 xue]), u29, u30, u31, u32, u33, u34, u35, u36, u37, u38, u39, u40, u41, u42, u43, u44, u45, u46, u47, u48, u49, u50, u51, u52, u53, u54, u55, u56, u57, u58, u59, u60, u61, u62], defers := [] } y)   (gb : Nat) (y0 : World) (X : Hid (Ext W1 y0)) (Ggb : Hid (Blk y0 gb (.int .i64 0) (.int .i64 0) (.string ⟨#[]⟩) (.int .i64 0))) (Ngb : Hid (W1.heap.size ≤ gb)) :
   wpBar Tryz.prog .any ecO Q (fun _ => false) S 3 #[true, true, true, true, false, true, false, false] { tmps := #[u0, u1, u2, u3, u4, u5, u6, u7, u8, u9, (.pointer (some ⟨gb, 0, none⟩)), u11, u12, u13, u14, u15, u16, u17, u18, u19, u20, u21, u22, u23, u24, (.agg #[.int .i64 xak, .int .i64 xan, .string xas, .int .i64 xae]), (.agg #[.int .i64 xvk, .int .i64 xvn, .string xvs, .int .i64 xve]), (.agg #[.int .i64 xbk, .int .i64 xbn, .string xbs, .int .i64 xbe]), (.agg #[.int .i64 xuk, .int .i64 xun, .string xus, .int .i64 xue]), u29, u30, u31, u32, u33, u34, u35, u36, u37, u38, u39, u40, u41, u42, u43, u44, u45, u46, u47, u48, u49, u50, u51, u52, u53, u54, u55, u56, u57, u58, u59, u60, u61, u62], defers := [] } y0 := by
 unfold ecO
 refine bar_one (i := 4) (by kernel_rfl) rfl (fun KK hKK => ?_)
 go_simp
 refine hKK.out _ _ (fun _ => mkS.out _ (X.out.alloc _)) ?_
 clear hKK KK
 obtain ⟨y1, hya⟩ : ∃ ya, World.alloc y0 (.cells #[.int .i64 0, .int .i64 0, .string ⟨#[]⟩, .int .i64 0] 25) = ya := ⟨_, rfl⟩
 obtain ⟨ga, hga⟩ : ∃ g, y0.heap.size = g := ⟨_, rfl⟩
 have E : Ext y0 y1 := by rw [← hya]; exact (Ext.refl _).alloc _
 have Gga : Hid (Blk y1 ga (.int .i64 0) (.int .i64 0) (.string ⟨#[]⟩) (.int .i64 0)) := by rw [← hya, ← hga]; exact blk_top rfl (Ext.refl _)
 have Nga : Hid (W1.heap.size ≤ ga) := by show _ ≤ _; rw [← hga]; exact X.out.sz
 have HD : Hid (ga ≠ gb) := by show _ ≠ _; have := Ggb.out.1; rw [hga] at this; omega
 rw [hya, hga]
 replace X : Hid (Ext W1 y1) := X.out.trans E
 replace Ggb := hx4 Ggb E
 clear E hya hga
 rw [show (#[true, true, true, true, false, true, false, false] : Array Bool).setIfInBounds 4 true = #[true, true, true, true, true, true, false, false] from rfl]
 exact ec_2gagb mkS cA cB hdone   ga gb y1 X Gga Nga Ggb Ngb HD

set_option maxRecDepth 100000 in
theorem ec_2 {xak xan : Int} {xas : ByteArray} {xae : Int} {xbk xbn : Int} {xbs : ByteArray} {xbe : Int} {xvk xvn : Int} {xvs : ByteArray} {xve : Int} {xuk xun : Int} {xus : ByteArray} {xue : Int} {W1 : World} {S : World → Prop} {Q : Exit → Act → World → Prop} {u0 u1 u2 u3 u4 u5 u6 u7 u8 u9 u10 u11 u12 u13 u14 u15 u16 u17 u18 u19 u20 u21 u22 u23 u24 u29 u30 u31 u32 u33 u34 u35 u36 u37 u38 u39 u40 u41 u42 u43 u44 u45 u46 u47 u48 u49 u50 u51 u52 u53 u54 u55 u56 u57 u58 u59 u60 u61 u62 : Value} (mkS : Hid (∀ V, Ext W1 V → S V)) (cA : Hid (∀ V, Calls Tryz.prog 14 #[.agg #[.int .i64 xak, .int .i64 xan, .string xas, .int .i64 xae]] V fun e w' => e = .returned (.agg #[.int .i64 xvk, .int .i64 xvn, .string xvs, .int .i64 xve]) ∧ Ext V w')) (cB : Hid (∀ V, Calls Tryz.prog 14 #[.agg #[.int .i64 xbk, .int .i64 xbn, .string xbs, .int .i64 xbe]] V fun e w' => e = .returned (.agg #[.int .i64 xuk, .int .i64 xun, .string xus, .int .i64 xue]) ∧ Ext V w')) (hdone : ∀   (ga : Nat) (gb : Nat) (y : World), Hid (Ext W1 y) → Hid (Blk y ga (.int .i64 xvk) (.int .i64 xvn) (.string xvs) (.int .i64 xve)) → Hid (Blk y gb (.int .i64 xuk) (.int .i64 xun) (.string xus) (.int .i64 xue)) → Hid (W1.heap.size ≤ ga) → Hid (W1.heap.size ≤ gb) → Hid (ga ≠ gb) → Q .normal { tmps := #[u0, u1, u2, u3, u4, u5, u6, u7, u8, (.pointer (some ⟨ga, 0, none⟩)), (.pointer (some ⟨gb, 0, none⟩)), u11, u12, u13, u14, u15, u16, u17, u18, u19, u20, u21, u22, u23, u24, (.agg #[.int .i64 xak, .int .i64 xan, .string xas, .int .i64 xae]), (.agg #[.int .i64 xvk, .int .i64 xvn, .string xvs, .int .i64 xve]), (.agg #[.int .i64 xbk, .int .i64 xbn, .string xbs, .int .i64 xbe]), (.agg #[.int .i64 xuk, .int .i64 xun, .string xus, .int .i64 xue]), u29, u30, u31, u32, u33, u34, u35, u36, u37, u38, u39, u40, u41, u42, u43, u44, u45, u46, u47, u48, u49, u50, u51, u52, u53, u54, u55, u56, u57, u58, u59, u60, u61, u62], defers := [] } y)    (y0 : World) (X : Hid (Ext W1 y0)) :
   wpBar Tryz.prog .any ecO Q (fun _ => false) S 4 #[true, true, true, true, false, false, false, false] { tmps := #[u0, u1, u2, u3, u4, u5, u6, u7, u8, u9, u10, u11, u12, u13, u14, u15, u16, u17, u18, u19, u20, u21, u22, u23, u24, (.agg #[.int .i64 xak, .int .i64 xan, .string xas, .int .i64 xae]), (.agg #[.int .i64 xvk, .int .i64 xvn, .string xvs, .int .i64 xve]), (.agg #[.int .i64 xbk, .int .i64 xbn, .string xbs, .int .i64 xbe]), (.agg #[.int .i64 xuk, .int .i64 xun, .string xus, .int .i64 xue]), u29, u30, u31, u32, u33, u34, u35, u36, u37, u38, u39, u40, u41, u42, u43, u44, u45, u46, u47, u48, u49, u50, u51, u52, u53, u54, u55, u56, u57, u58, u59, u60, u61, u62], defers := [] } y0 := by
 unfold ecO
 refine bar_list (rs := [4, 5]) (by kernel_rfl) (by simp) ?_
 refine Bars.cons rfl (fun KK hKK => ?_) ?_
 · go_simp
   refine hKK.out _ _ (fun _ => mkS.out _ (X.out.alloc _)) ?_
   clear hKK KK
   obtain ⟨y1, hya⟩ : ∃ ya, World.alloc y0 (.cells #[.int .i64 0, .int .i64 0, .string ⟨#[]⟩, .int .i64 0] 25) = ya := ⟨_, rfl⟩
   obtain ⟨ga, hga⟩ : ∃ g, y0.heap.size = g := ⟨_, rfl⟩
   have E : Ext y0 y1 := by rw [← hya]; exact (Ext.refl _).alloc _
   have Gga : Hid (Blk y1 ga (.int .i64 0) (.int .i64 0) (.string ⟨#[]⟩) (.int .i64 0)) := by rw [← hya, ← hga]; exact blk_top rfl (Ext.refl _)
   have Nga : Hid (W1.heap.size ≤ ga) := by show _ ≤ _; rw [← hga]; exact X.out.sz
   rw [hya, hga]
   replace X : Hid (Ext W1 y1) := X.out.trans E
   clear E hya hga
   rw [show (#[true, true, true, true, false, false, false, false] : Array Bool).setIfInBounds 4 true = #[true, true, true, true, true, false, false, false] from rfl]
   exact ec_2ga mkS cA cB hdone   ga y1 X Gga Nga
 · refine Bars.cons rfl (fun KK hKK => ?_) ?_
   · go_simp
     refine hKK.out _ _ (fun _ => mkS.out _ (X.out.alloc _)) ?_
     clear hKK KK
     obtain ⟨y1, hya⟩ : ∃ ya, World.alloc y0 (.cells #[.int .i64 0, .int .i64 0, .string ⟨#[]⟩, .int .i64 0] 25) = ya := ⟨_, rfl⟩
     obtain ⟨gb, hga⟩ : ∃ g, y0.heap.size = g := ⟨_, rfl⟩
     have E : Ext y0 y1 := by rw [← hya]; exact (Ext.refl _).alloc _
     have Ggb : Hid (Blk y1 gb (.int .i64 0) (.int .i64 0) (.string ⟨#[]⟩) (.int .i64 0)) := by rw [← hya, ← hga]; exact blk_top rfl (Ext.refl _)
     have Ngb : Hid (W1.heap.size ≤ gb) := by show _ ≤ _; rw [← hga]; exact X.out.sz
     rw [hya, hga]
     replace X : Hid (Ext W1 y1) := X.out.trans E
     clear E hya hga
     rw [show (#[true, true, true, true, false, false, false, false] : Array Bool).setIfInBounds 5 true = #[true, true, true, true, false, true, false, false] from rfl]
     exact ec_2gb mkS cA cB hdone   gb y1 X Ggb Ngb
   · exact Bars.nil

set_option maxRecDepth 100000 in
theorem ec_1gagb {xak xan : Int} {xas : ByteArray} {xae : Int} {xbk xbn : Int} {xbs : ByteArray} {xbe : Int} {xvk xvn : Int} {xvs : ByteArray} {xve : Int} {xuk xun : Int} {xus : ByteArray} {xue : Int} {W1 : World} {S : World → Prop} {Q : Exit → Act → World → Prop} {u0 u1 u2 u3 u4 u5 u6 u7 u8 u11 u12 u13 u14 u15 u16 u17 u18 u19 u20 u21 u22 u23 u24 u28 u29 u30 u31 u32 u33 u34 u35 u36 u37 u38 u39 u40 u41 u42 u43 u44 u45 u46 u47 u48 u49 u50 u51 u52 u53 u54 u55 u56 u57 u58 u59 u60 u61 u62 : Value} (mkS : Hid (∀ V, Ext W1 V → S V)) (cA : Hid (∀ V, Calls Tryz.prog 14 #[.agg #[.int .i64 xak, .int .i64 xan, .string xas, .int .i64 xae]] V fun e w' => e = .returned (.agg #[.int .i64 xvk, .int .i64 xvn, .string xvs, .int .i64 xve]) ∧ Ext V w')) (cB : Hid (∀ V, Calls Tryz.prog 14 #[.agg #[.int .i64 xbk, .int .i64 xbn, .string xbs, .int .i64 xbe]] V fun e w' => e = .returned (.agg #[.int .i64 xuk, .int .i64 xun, .string xus, .int .i64 xue]) ∧ Ext V w')) (hdone : ∀   (ga : Nat) (gb : Nat) (y : World), Hid (Ext W1 y) → Hid (Blk y ga (.int .i64 xvk) (.int .i64 xvn) (.string xvs) (.int .i64 xve)) → Hid (Blk y gb (.int .i64 xuk) (.int .i64 xun) (.string xus) (.int .i64 xue)) → Hid (W1.heap.size ≤ ga) → Hid (W1.heap.size ≤ gb) → Hid (ga ≠ gb) → Q .normal { tmps := #[u0, u1, u2, u3, u4, u5, u6, u7, u8, (.pointer (some ⟨ga, 0, none⟩)), (.pointer (some ⟨gb, 0, none⟩)), u11, u12, u13, u14, u15, u16, u17, u18, u19, u20, u21, u22, u23, u24, (.agg #[.int .i64 xak, .int .i64 xan, .string xas, .int .i64 xae]), (.agg #[.int .i64 xvk, .int .i64 xvn, .string xvs, .int .i64 xve]), (.agg #[.int .i64 xbk, .int .i64 xbn, .string xbs, .int .i64 xbe]), (.agg #[.int .i64 xuk, .int .i64 xun, .string xus, .int .i64 xue]), u29, u30, u31, u32, u33, u34, u35, u36, u37, u38, u39, u40, u41, u42, u43, u44, u45, u46, u47, u48, u49, u50, u51, u52, u53, u54, u55, u56, u57, u58, u59, u60, u61, u62], defers := [] } y)  (ga : Nat) (gb : Nat) (y0 : World) (X : Hid (Ext W1 y0)) (Gga : Hid (Blk y0 ga (.int .i64 0) (.int .i64 0) (.string ⟨#[]⟩) (.int .i64 0))) (Nga : Hid (W1.heap.size ≤ ga)) (Ggb : Hid (Blk y0 gb (.int .i64 0) (.int .i64 0) (.string ⟨#[]⟩) (.int .i64 0))) (Ngb : Hid (W1.heap.size ≤ gb)) (HD : Hid (ga ≠ gb)) :
   wpBar Tryz.prog .any ecO Q (fun _ => false) S 3 #[true, true, true, false, true, true, false, false] { tmps := #[u0, u1, u2, u3, u4, u5, u6, u7, u8, (.pointer (some ⟨ga, 0, none⟩)), (.pointer (some ⟨gb, 0, none⟩)), u11, u12, u13, u14, u15, u16, u17, u18, u19, u20, u21, u22, u23, u24, (.agg #[.int .i64 xak, .int .i64 xan, .string xas, .int .i64 xae]), (.agg #[.int .i64 xvk, .int .i64 xvn, .string xvs, .int .i64 xve]), (.agg #[.int .i64 xbk, .int .i64 xbn, .string xbs, .int .i64 xbe]), u28, u29, u30, u31, u32, u33, u34, u35, u36, u37, u38, u39, u40, u41, u42, u43, u44, u45, u46, u47, u48, u49, u50, u51, u52, u53, u54, u55, u56, u57, u58, u59, u60, u61, u62], defers := [] } y0 := by
 unfold ecO
 refine bar_one (i := 3) (by kernel_rfl) rfl (fun KK hKK => ?_)
 go_simp
 go_wp2_with (go_at_call 14; refine Calls.mono (cB.out _) ?_; rintro e y1 ⟨rfl, E⟩)
 replace X : Hid (Ext W1 y1) := X.out.trans E
 refine hKK.out _ _ (fun _ => mkS.out _ X.out) ?_
 clear hKK KK
 replace Gga := hx4 Gga E
 replace Ggb := hx4 Ggb E
 clear E
 rw [show (#[true, true, true, false, true, true, false, false] : Array Bool).setIfInBounds 3 true = #[true, true, true, true, true, true, false, false] from rfl]
 exact ec_2gagb mkS cA cB hdone   ga gb y1 X Gga Nga Ggb Ngb HD

set_option maxRecDepth 100000 in
theorem ec_1ga {xak xan : Int} {xas : ByteArray} {xae : Int} {xbk xbn : Int} {xbs : ByteArray} {xbe : Int} {xvk xvn : Int} {xvs : ByteArray} {xve : Int} {xuk xun : Int} {xus : ByteArray} {xue : Int} {W1 : World} {S : World → Prop} {Q : Exit → Act → World → Prop} {u0 u1 u2 u3 u4 u5 u6 u7 u8 u10 u11 u12 u13 u14 u15 u16 u17 u18 u19 u20 u21 u22 u23 u24 u28 u29 u30 u31 u32 u33 u34 u35 u36 u37 u38 u39 u40 u41 u42 u43 u44 u45 u46 u47 u48 u49 u50 u51 u52 u53 u54 u55 u56 u57 u58 u59 u60 u61 u62 : Value} (mkS : Hid (∀ V, Ext W1 V → S V)) (cA : Hid (∀ V, Calls Tryz.prog 14 #[.agg #[.int .i64 xak, .int .i64 xan, .string xas, .int .i64 xae]] V fun e w' => e = .returned (.agg #[.int .i64 xvk, .int .i64 xvn, .string xvs, .int .i64 xve]) ∧ Ext V w')) (cB : Hid (∀ V, Calls Tryz.prog 14 #[.agg #[.int .i64 xbk, .int .i64 xbn, .string xbs, .int .i64 xbe]] V fun e w' => e = .returned (.agg #[.int .i64 xuk, .int .i64 xun, .string xus, .int .i64 xue]) ∧ Ext V w')) (hdone : ∀   (ga : Nat) (gb : Nat) (y : World), Hid (Ext W1 y) → Hid (Blk y ga (.int .i64 xvk) (.int .i64 xvn) (.string xvs) (.int .i64 xve)) → Hid (Blk y gb (.int .i64 xuk) (.int .i64 xun) (.string xus) (.int .i64 xue)) → Hid (W1.heap.size ≤ ga) → Hid (W1.heap.size ≤ gb) → Hid (ga ≠ gb) → Q .normal { tmps := #[u0, u1, u2, u3, u4, u5, u6, u7, u8, (.pointer (some ⟨ga, 0, none⟩)), (.pointer (some ⟨gb, 0, none⟩)), u11, u12, u13, u14, u15, u16, u17, u18, u19, u20, u21, u22, u23, u24, (.agg #[.int .i64 xak, .int .i64 xan, .string xas, .int .i64 xae]), (.agg #[.int .i64 xvk, .int .i64 xvn, .string xvs, .int .i64 xve]), (.agg #[.int .i64 xbk, .int .i64 xbn, .string xbs, .int .i64 xbe]), (.agg #[.int .i64 xuk, .int .i64 xun, .string xus, .int .i64 xue]), u29, u30, u31, u32, u33, u34, u35, u36, u37, u38, u39, u40, u41, u42, u43, u44, u45, u46, u47, u48, u49, u50, u51, u52, u53, u54, u55, u56, u57, u58, u59, u60, u61, u62], defers := [] } y)  (ga : Nat) (y0 : World) (X : Hid (Ext W1 y0)) (Gga : Hid (Blk y0 ga (.int .i64 0) (.int .i64 0) (.string ⟨#[]⟩) (.int .i64 0))) (Nga : Hid (W1.heap.size ≤ ga)) :
   wpBar Tryz.prog .any ecO Q (fun _ => false) S 4 #[true, true, true, false, true, false, false, false] { tmps := #[u0, u1, u2, u3, u4, u5, u6, u7, u8, (.pointer (some ⟨ga, 0, none⟩)), u10, u11, u12, u13, u14, u15, u16, u17, u18, u19, u20, u21, u22, u23, u24, (.agg #[.int .i64 xak, .int .i64 xan, .string xas, .int .i64 xae]), (.agg #[.int .i64 xvk, .int .i64 xvn, .string xvs, .int .i64 xve]), (.agg #[.int .i64 xbk, .int .i64 xbn, .string xbs, .int .i64 xbe]), u28, u29, u30, u31, u32, u33, u34, u35, u36, u37, u38, u39, u40, u41, u42, u43, u44, u45, u46, u47, u48, u49, u50, u51, u52, u53, u54, u55, u56, u57, u58, u59, u60, u61, u62], defers := [] } y0 := by
 unfold ecO
 refine bar_list (rs := [3, 5]) (by kernel_rfl) (by simp) ?_
 refine Bars.cons rfl (fun KK hKK => ?_) ?_
 · go_simp
   go_wp2_with (go_at_call 14; refine Calls.mono (cB.out _) ?_; rintro e y1 ⟨rfl, E⟩)
   replace X : Hid (Ext W1 y1) := X.out.trans E
   refine hKK.out _ _ (fun _ => mkS.out _ X.out) ?_
   clear hKK KK
   replace Gga := hx4 Gga E
   clear E
   rw [show (#[true, true, true, false, true, false, false, false] : Array Bool).setIfInBounds 3 true = #[true, true, true, true, true, false, false, false] from rfl]
   exact ec_2ga mkS cA cB hdone   ga y1 X Gga Nga
 · refine Bars.cons rfl (fun KK hKK => ?_) ?_
   · go_simp
     refine hKK.out _ _ (fun _ => mkS.out _ (X.out.alloc _)) ?_
     clear hKK KK
     obtain ⟨y1, hya⟩ : ∃ ya, World.alloc y0 (.cells #[.int .i64 0, .int .i64 0, .string ⟨#[]⟩, .int .i64 0] 25) = ya := ⟨_, rfl⟩
     obtain ⟨gb, hga⟩ : ∃ g, y0.heap.size = g := ⟨_, rfl⟩
     have E : Ext y0 y1 := by rw [← hya]; exact (Ext.refl _).alloc _
     have Ggb : Hid (Blk y1 gb (.int .i64 0) (.int .i64 0) (.string ⟨#[]⟩) (.int .i64 0)) := by rw [← hya, ← hga]; exact blk_top rfl (Ext.refl _)
     have Ngb : Hid (W1.heap.size ≤ gb) := by show _ ≤ _; rw [← hga]; exact X.out.sz
     have HD : Hid (ga ≠ gb) := by show _ ≠ _; have := Gga.out.1; rw [hga] at this; omega
     rw [hya, hga]
     replace X : Hid (Ext W1 y1) := X.out.trans E
     replace Gga := hx4 Gga E
     clear E hya hga
     rw [show (#[true, true, true, false, true, false, false, false] : Array Bool).setIfInBounds 5 true = #[true, true, true, false, true, true, false, false] from rfl]
     exact ec_1gagb mkS cA cB hdone  ga gb y1 X Gga Nga Ggb Ngb HD
   · exact Bars.nil

set_option maxRecDepth 100000 in
theorem ec_1gb {xak xan : Int} {xas : ByteArray} {xae : Int} {xbk xbn : Int} {xbs : ByteArray} {xbe : Int} {xvk xvn : Int} {xvs : ByteArray} {xve : Int} {xuk xun : Int} {xus : ByteArray} {xue : Int} {W1 : World} {S : World → Prop} {Q : Exit → Act → World → Prop} {u0 u1 u2 u3 u4 u5 u6 u7 u8 u9 u11 u12 u13 u14 u15 u16 u17 u18 u19 u20 u21 u22 u23 u24 u28 u29 u30 u31 u32 u33 u34 u35 u36 u37 u38 u39 u40 u41 u42 u43 u44 u45 u46 u47 u48 u49 u50 u51 u52 u53 u54 u55 u56 u57 u58 u59 u60 u61 u62 : Value} (mkS : Hid (∀ V, Ext W1 V → S V)) (cA : Hid (∀ V, Calls Tryz.prog 14 #[.agg #[.int .i64 xak, .int .i64 xan, .string xas, .int .i64 xae]] V fun e w' => e = .returned (.agg #[.int .i64 xvk, .int .i64 xvn, .string xvs, .int .i64 xve]) ∧ Ext V w')) (cB : Hid (∀ V, Calls Tryz.prog 14 #[.agg #[.int .i64 xbk, .int .i64 xbn, .string xbs, .int .i64 xbe]] V fun e w' => e = .returned (.agg #[.int .i64 xuk, .int .i64 xun, .string xus, .int .i64 xue]) ∧ Ext V w')) (hdone : ∀   (ga : Nat) (gb : Nat) (y : World), Hid (Ext W1 y) → Hid (Blk y ga (.int .i64 xvk) (.int .i64 xvn) (.string xvs) (.int .i64 xve)) → Hid (Blk y gb (.int .i64 xuk) (.int .i64 xun) (.string xus) (.int .i64 xue)) → Hid (W1.heap.size ≤ ga) → Hid (W1.heap.size ≤ gb) → Hid (ga ≠ gb) → Q .normal { tmps := #[u0, u1, u2, u3, u4, u5, u6, u7, u8, (.pointer (some ⟨ga, 0, none⟩)), (.pointer (some ⟨gb, 0, none⟩)), u11, u12, u13, u14, u15, u16, u17, u18, u19, u20, u21, u22, u23, u24, (.agg #[.int .i64 xak, .int .i64 xan, .string xas, .int .i64 xae]), (.agg #[.int .i64 xvk, .int .i64 xvn, .string xvs, .int .i64 xve]), (.agg #[.int .i64 xbk, .int .i64 xbn, .string xbs, .int .i64 xbe]), (.agg #[.int .i64 xuk, .int .i64 xun, .string xus, .int .i64 xue]), u29, u30, u31, u32, u33, u34, u35, u36, u37, u38, u39, u40, u41, u42, u43, u44, u45, u46, u47, u48, u49, u50, u51, u52, u53, u54, u55, u56, u57, u58, u59, u60, u61, u62], defers := [] } y)  (gb : Nat) (y0 : World) (X : Hid (Ext W1 y0)) (Ggb : Hid (Blk y0 gb (.int .i64 0) (.int .i64 0) (.string ⟨#[]⟩) (.int .i64 0))) (Ngb : Hid (W1.heap.size ≤ gb)) :
   wpBar Tryz.prog .any ecO Q (fun _ => false) S 4 #[true, true, true, false, false, true, false, false] { tmps := #[u0, u1, u2, u3, u4, u5, u6, u7, u8, u9, (.pointer (some ⟨gb, 0, none⟩)), u11, u12, u13, u14, u15, u16, u17, u18, u19, u20, u21, u22, u23, u24, (.agg #[.int .i64 xak, .int .i64 xan, .string xas, .int .i64 xae]), (.agg #[.int .i64 xvk, .int .i64 xvn, .string xvs, .int .i64 xve]), (.agg #[.int .i64 xbk, .int .i64 xbn, .string xbs, .int .i64 xbe]), u28, u29, u30, u31, u32, u33, u34, u35, u36, u37, u38, u39, u40, u41, u42, u43, u44, u45, u46, u47, u48, u49, u50, u51, u52, u53, u54, u55, u56, u57, u58, u59, u60, u61, u62], defers := [] } y0 := by
 unfold ecO
 refine bar_list (rs := [3, 4]) (by kernel_rfl) (by simp) ?_
 refine Bars.cons rfl (fun KK hKK => ?_) ?_
 · go_simp
   go_wp2_with (go_at_call 14; refine Calls.mono (cB.out _) ?_; rintro e y1 ⟨rfl, E⟩)
   replace X : Hid (Ext W1 y1) := X.out.trans E
   refine hKK.out _ _ (fun _ => mkS.out _ X.out) ?_
   clear hKK KK
   replace Ggb := hx4 Ggb E
   clear E
   rw [show (#[true, true, true, false, false, true, false, false] : Array Bool).setIfInBounds 3 true = #[true, true, true, true, false, true, false, false] from rfl]
   exact ec_2gb mkS cA cB hdone   gb y1 X Ggb Ngb
 · refine Bars.cons rfl (fun KK hKK => ?_) ?_
   · go_simp
     refine hKK.out _ _ (fun _ => mkS.out _ (X.out.alloc _)) ?_
     clear hKK KK
     obtain ⟨y1, hya⟩ : ∃ ya, World.alloc y0 (.cells #[.int .i64 0, .int .i64 0, .string ⟨#[]⟩, .int .i64 0] 25) = ya := ⟨_, rfl⟩
     obtain ⟨ga, hga⟩ : ∃ g, y0.heap.size = g := ⟨_, rfl⟩
     have E : Ext y0 y1 := by rw [← hya]; exact (Ext.refl _).alloc _
     have Gga : Hid (Blk y1 ga (.int .i64 0) (.int .i64 0) (.string ⟨#[]⟩) (.int .i64 0)) := by rw [← hya, ← hga]; exact blk_top rfl (Ext.refl _)
     have Nga : Hid (W1.heap.size ≤ ga) := by show _ ≤ _; rw [← hga]; exact X.out.sz
     have HD : Hid (ga ≠ gb) := by show _ ≠ _; have := Ggb.out.1; rw [hga] at this; omega
     rw [hya, hga]
     replace X : Hid (Ext W1 y1) := X.out.trans E
     replace Ggb := hx4 Ggb E
     clear E hya hga
     rw [show (#[true, true, true, false, false, true, false, false] : Array Bool).setIfInBounds 4 true = #[true, true, true, false, true, true, false, false] from rfl]
     exact ec_1gagb mkS cA cB hdone  ga gb y1 X Gga Nga Ggb Ngb HD
   · exact Bars.nil

set_option maxRecDepth 100000 in
theorem ec_1 {xak xan : Int} {xas : ByteArray} {xae : Int} {xbk xbn : Int} {xbs : ByteArray} {xbe : Int} {xvk xvn : Int} {xvs : ByteArray} {xve : Int} {xuk xun : Int} {xus : ByteArray} {xue : Int} {W1 : World} {S : World → Prop} {Q : Exit → Act → World → Prop} {u0 u1 u2 u3 u4 u5 u6 u7 u8 u9 u10 u11 u12 u13 u14 u15 u16 u17 u18 u19 u20 u21 u22 u23 u24 u28 u29 u30 u31 u32 u33 u34 u35 u36 u37 u38 u39 u40 u41 u42 u43 u44 u45 u46 u47 u48 u49 u50 u51 u52 u53 u54 u55 u56 u57 u58 u59 u60 u61 u62 : Value} (mkS : Hid (∀ V, Ext W1 V → S V)) (cA : Hid (∀ V, Calls Tryz.prog 14 #[.agg #[.int .i64 xak, .int .i64 xan, .string xas, .int .i64 xae]] V fun e w' => e = .returned (.agg #[.int .i64 xvk, .int .i64 xvn, .string xvs, .int .i64 xve]) ∧ Ext V w')) (cB : Hid (∀ V, Calls Tryz.prog 14 #[.agg #[.int .i64 xbk, .int .i64 xbn, .string xbs, .int .i64 xbe]] V fun e w' => e = .returned (.agg #[.int .i64 xuk, .int .i64 xun, .string xus, .int .i64 xue]) ∧ Ext V w')) (hdone : ∀   (ga : Nat) (gb : Nat) (y : World), Hid (Ext W1 y) → Hid (Blk y ga (.int .i64 xvk) (.int .i64 xvn) (.string xvs) (.int .i64 xve)) → Hid (Blk y gb (.int .i64 xuk) (.int .i64 xun) (.string xus) (.int .i64 xue)) → Hid (W1.heap.size ≤ ga) → Hid (W1.heap.size ≤ gb) → Hid (ga ≠ gb) → Q .normal { tmps := #[u0, u1, u2, u3, u4, u5, u6, u7, u8, (.pointer (some ⟨ga, 0, none⟩)), (.pointer (some ⟨gb, 0, none⟩)), u11, u12, u13, u14, u15, u16, u17, u18, u19, u20, u21, u22, u23, u24, (.agg #[.int .i64 xak, .int .i64 xan, .string xas, .int .i64 xae]), (.agg #[.int .i64 xvk, .int .i64 xvn, .string xvs, .int .i64 xve]), (.agg #[.int .i64 xbk, .int .i64 xbn, .string xbs, .int .i64 xbe]), (.agg #[.int .i64 xuk, .int .i64 xun, .string xus, .int .i64 xue]), u29, u30, u31, u32, u33, u34, u35, u36, u37, u38, u39, u40, u41, u42, u43, u44, u45, u46, u47, u48, u49, u50, u51, u52, u53, u54, u55, u56, u57, u58, u59, u60, u61, u62], defers := [] } y)   (y0 : World) (X : Hid (Ext W1 y0)) :
   wpBar Tryz.prog .any ecO Q (fun _ => false) S 5 #[true, true, true, false, false, false, false, false] { tmps := #[u0, u1, u2, u3, u4, u5, u6, u7, u8, u9, u10, u11, u12, u13, u14, u15, u16, u17, u18, u19, u20, u21, u22, u23, u24, (.agg #[.int .i64 xak, .int .i64 xan, .string xas, .int .i64 xae]), (.agg #[.int .i64 xvk, .int .i64 xvn, .string xvs, .int .i64 xve]), (.agg #[.int .i64 xbk, .int .i64 xbn, .string xbs, .int .i64 xbe]), u28, u29, u30, u31, u32, u33, u34, u35, u36, u37, u38, u39, u40, u41, u42, u43, u44, u45, u46, u47, u48, u49, u50, u51, u52, u53, u54, u55, u56, u57, u58, u59, u60, u61, u62], defers := [] } y0 := by
 unfold ecO
 refine bar_list (rs := [3, 4, 5]) (by kernel_rfl) (by simp) ?_
 refine Bars.cons rfl (fun KK hKK => ?_) ?_
 · go_simp
   go_wp2_with (go_at_call 14; refine Calls.mono (cB.out _) ?_; rintro e y1 ⟨rfl, E⟩)
   replace X : Hid (Ext W1 y1) := X.out.trans E
   refine hKK.out _ _ (fun _ => mkS.out _ X.out) ?_
   clear hKK KK
   clear E
   rw [show (#[true, true, true, false, false, false, false, false] : Array Bool).setIfInBounds 3 true = #[true, true, true, true, false, false, false, false] from rfl]
   exact ec_2 mkS cA cB hdone    y1 X
 · refine Bars.cons rfl (fun KK hKK => ?_) ?_
   · go_simp
     refine hKK.out _ _ (fun _ => mkS.out _ (X.out.alloc _)) ?_
     clear hKK KK
     obtain ⟨y1, hya⟩ : ∃ ya, World.alloc y0 (.cells #[.int .i64 0, .int .i64 0, .string ⟨#[]⟩, .int .i64 0] 25) = ya := ⟨_, rfl⟩
     obtain ⟨ga, hga⟩ : ∃ g, y0.heap.size = g := ⟨_, rfl⟩
     have E : Ext y0 y1 := by rw [← hya]; exact (Ext.refl _).alloc _
     have Gga : Hid (Blk y1 ga (.int .i64 0) (.int .i64 0) (.string ⟨#[]⟩) (.int .i64 0)) := by rw [← hya, ← hga]; exact blk_top rfl (Ext.refl _)
     have Nga : Hid (W1.heap.size ≤ ga) := by show _ ≤ _; rw [← hga]; exact X.out.sz
     rw [hya, hga]
     replace X : Hid (Ext W1 y1) := X.out.trans E
     clear E hya hga
     rw [show (#[true, true, true, false, false, false, false, false] : Array Bool).setIfInBounds 4 true = #[true, true, true, false, true, false, false, false] from rfl]
     exact ec_1ga mkS cA cB hdone  ga y1 X Gga Nga
   · refine Bars.cons rfl (fun KK hKK => ?_) ?_
     · go_simp
       refine hKK.out _ _ (fun _ => mkS.out _ (X.out.alloc _)) ?_
       clear hKK KK
       obtain ⟨y1, hya⟩ : ∃ ya, World.alloc y0 (.cells #[.int .i64 0, .int .i64 0, .string ⟨#[]⟩, .int .i64 0] 25) = ya := ⟨_, rfl⟩
       obtain ⟨gb, hga⟩ : ∃ g, y0.heap.size = g := ⟨_, rfl⟩
       have E : Ext y0 y1 := by rw [← hya]; exact (Ext.refl _).alloc _
       have Ggb : Hid (Blk y1 gb (.int .i64 0) (.int .i64 0) (.string ⟨#[]⟩) (.int .i64 0)) := by rw [← hya, ← hga]; exact blk_top rfl (Ext.refl _)
       have Ngb : Hid (W1.heap.size ≤ gb) := by show _ ≤ _; rw [← hga]; exact X.out.sz
       rw [hya, hga]
       replace X : Hid (Ext W1 y1) := X.out.trans E
       clear E hya hga
       rw [show (#[true, true, true, false, false, false, false, false] : Array Bool).setIfInBounds 5 true = #[true, true, true, false, false, true, false, false] from rfl]
       exact ec_1gb mkS cA cB hdone  gb y1 X Ggb Ngb
     · exact Bars.nil

set_option maxRecDepth 100000 in
theorem ec_0gagb {xak xan : Int} {xas : ByteArray} {xae : Int} {xbk xbn : Int} {xbs : ByteArray} {xbe : Int} {xvk xvn : Int} {xvs : ByteArray} {xve : Int} {xuk xun : Int} {xus : ByteArray} {xue : Int} {W1 : World} {S : World → Prop} {Q : Exit → Act → World → Prop} {u0 u1 u2 u3 u4 u5 u6 u7 u8 u11 u12 u13 u14 u15 u16 u17 u18 u19 u20 u21 u22 u23 u24 u26 u28 u29 u30 u31 u32 u33 u34 u35 u36 u37 u38 u39 u40 u41 u42 u43 u44 u45 u46 u47 u48 u49 u50 u51 u52 u53 u54 u55 u56 u57 u58 u59 u60 u61 u62 : Value} (mkS : Hid (∀ V, Ext W1 V → S V)) (cA : Hid (∀ V, Calls Tryz.prog 14 #[.agg #[.int .i64 xak, .int .i64 xan, .string xas, .int .i64 xae]] V fun e w' => e = .returned (.agg #[.int .i64 xvk, .int .i64 xvn, .string xvs, .int .i64 xve]) ∧ Ext V w')) (cB : Hid (∀ V, Calls Tryz.prog 14 #[.agg #[.int .i64 xbk, .int .i64 xbn, .string xbs, .int .i64 xbe]] V fun e w' => e = .returned (.agg #[.int .i64 xuk, .int .i64 xun, .string xus, .int .i64 xue]) ∧ Ext V w')) (hdone : ∀   (ga : Nat) (gb : Nat) (y : World), Hid (Ext W1 y) → Hid (Blk y ga (.int .i64 xvk) (.int .i64 xvn) (.string xvs) (.int .i64 xve)) → Hid (Blk y gb (.int .i64 xuk) (.int .i64 xun) (.string xus) (.int .i64 xue)) → Hid (W1.heap.size ≤ ga) → Hid (W1.heap.size ≤ gb) → Hid (ga ≠ gb) → Q .normal { tmps := #[u0, u1, u2, u3, u4, u5, u6, u7, u8, (.pointer (some ⟨ga, 0, none⟩)), (.pointer (some ⟨gb, 0, none⟩)), u11, u12, u13, u14, u15, u16, u17, u18, u19, u20, u21, u22, u23, u24, (.agg #[.int .i64 xak, .int .i64 xan, .string xas, .int .i64 xae]), (.agg #[.int .i64 xvk, .int .i64 xvn, .string xvs, .int .i64 xve]), (.agg #[.int .i64 xbk, .int .i64 xbn, .string xbs, .int .i64 xbe]), (.agg #[.int .i64 xuk, .int .i64 xun, .string xus, .int .i64 xue]), u29, u30, u31, u32, u33, u34, u35, u36, u37, u38, u39, u40, u41, u42, u43, u44, u45, u46, u47, u48, u49, u50, u51, u52, u53, u54, u55, u56, u57, u58, u59, u60, u61, u62], defers := [] } y)  (ga : Nat) (gb : Nat) (y0 : World) (X : Hid (Ext W1 y0)) (Gga : Hid (Blk y0 ga (.int .i64 0) (.int .i64 0) (.string ⟨#[]⟩) (.int .i64 0))) (Nga : Hid (W1.heap.size ≤ ga)) (Ggb : Hid (Blk y0 gb (.int .i64 0) (.int .i64 0) (.string ⟨#[]⟩) (.int .i64 0))) (Ngb : Hid (W1.heap.size ≤ gb)) (HD : Hid (ga ≠ gb)) :
   wpBar Tryz.prog .any ecO Q (fun _ => false) S 4 #[true, false, true, false, true, true, false, false] { tmps := #[u0, u1, u2, u3, u4, u5, u6, u7, u8, (.pointer (some ⟨ga, 0, none⟩)), (.pointer (some ⟨gb, 0, none⟩)), u11, u12, u13, u14, u15, u16, u17, u18, u19, u20, u21, u22, u23, u24, (.agg #[.int .i64 xak, .int .i64 xan, .string xas, .int .i64 xae]), u26, (.agg #[.int .i64 xbk, .int .i64 xbn, .string xbs, .int .i64 xbe]), u28, u29, u30, u31, u32, u33, u34, u35, u36, u37, u38, u39, u40, u41, u42, u43, u44, u45, u46, u47, u48, u49, u50, u51, u52, u53, u54, u55, u56, u57, u58, u59, u60, u61, u62], defers := [] } y0 := by
 unfold ecO
 refine bar_one (i := 1) (by kernel_rfl) rfl (fun KK hKK => ?_)
 go_simp
 go_wp2_with (go_at_call 14; refine Calls.mono (cA.out _) ?_; rintro e y1 ⟨rfl, E⟩)
 replace X : Hid (Ext W1 y1) := X.out.trans E
 refine hKK.out _ _ (fun _ => mkS.out _ X.out) ?_
 clear hKK KK
 replace Gga := hx4 Gga E
 replace Ggb := hx4 Ggb E
 clear E
 rw [show (#[true, false, true, false, true, true, false, false] : Array Bool).setIfInBounds 1 true = #[true, true, true, false, true, true, false, false] from rfl]
 exact ec_1gagb mkS cA cB hdone  ga gb y1 X Gga Nga Ggb Ngb HD

set_option maxRecDepth 100000 in
theorem ec_0ga {xak xan : Int} {xas : ByteArray} {xae : Int} {xbk xbn : Int} {xbs : ByteArray} {xbe : Int} {xvk xvn : Int} {xvs : ByteArray} {xve : Int} {xuk xun : Int} {xus : ByteArray} {xue : Int} {W1 : World} {S : World → Prop} {Q : Exit → Act → World → Prop} {u0 u1 u2 u3 u4 u5 u6 u7 u8 u10 u11 u12 u13 u14 u15 u16 u17 u18 u19 u20 u21 u22 u23 u24 u26 u28 u29 u30 u31 u32 u33 u34 u35 u36 u37 u38 u39 u40 u41 u42 u43 u44 u45 u46 u47 u48 u49 u50 u51 u52 u53 u54 u55 u56 u57 u58 u59 u60 u61 u62 : Value} (mkS : Hid (∀ V, Ext W1 V → S V)) (cA : Hid (∀ V, Calls Tryz.prog 14 #[.agg #[.int .i64 xak, .int .i64 xan, .string xas, .int .i64 xae]] V fun e w' => e = .returned (.agg #[.int .i64 xvk, .int .i64 xvn, .string xvs, .int .i64 xve]) ∧ Ext V w')) (cB : Hid (∀ V, Calls Tryz.prog 14 #[.agg #[.int .i64 xbk, .int .i64 xbn, .string xbs, .int .i64 xbe]] V fun e w' => e = .returned (.agg #[.int .i64 xuk, .int .i64 xun, .string xus, .int .i64 xue]) ∧ Ext V w')) (hdone : ∀   (ga : Nat) (gb : Nat) (y : World), Hid (Ext W1 y) → Hid (Blk y ga (.int .i64 xvk) (.int .i64 xvn) (.string xvs) (.int .i64 xve)) → Hid (Blk y gb (.int .i64 xuk) (.int .i64 xun) (.string xus) (.int .i64 xue)) → Hid (W1.heap.size ≤ ga) → Hid (W1.heap.size ≤ gb) → Hid (ga ≠ gb) → Q .normal { tmps := #[u0, u1, u2, u3, u4, u5, u6, u7, u8, (.pointer (some ⟨ga, 0, none⟩)), (.pointer (some ⟨gb, 0, none⟩)), u11, u12, u13, u14, u15, u16, u17, u18, u19, u20, u21, u22, u23, u24, (.agg #[.int .i64 xak, .int .i64 xan, .string xas, .int .i64 xae]), (.agg #[.int .i64 xvk, .int .i64 xvn, .string xvs, .int .i64 xve]), (.agg #[.int .i64 xbk, .int .i64 xbn, .string xbs, .int .i64 xbe]), (.agg #[.int .i64 xuk, .int .i64 xun, .string xus, .int .i64 xue]), u29, u30, u31, u32, u33, u34, u35, u36, u37, u38, u39, u40, u41, u42, u43, u44, u45, u46, u47, u48, u49, u50, u51, u52, u53, u54, u55, u56, u57, u58, u59, u60, u61, u62], defers := [] } y)  (ga : Nat) (y0 : World) (X : Hid (Ext W1 y0)) (Gga : Hid (Blk y0 ga (.int .i64 0) (.int .i64 0) (.string ⟨#[]⟩) (.int .i64 0))) (Nga : Hid (W1.heap.size ≤ ga)) :
   wpBar Tryz.prog .any ecO Q (fun _ => false) S 5 #[true, false, true, false, true, false, false, false] { tmps := #[u0, u1, u2, u3, u4, u5, u6, u7, u8, (.pointer (some ⟨ga, 0, none⟩)), u10, u11, u12, u13, u14, u15, u16, u17, u18, u19, u20, u21, u22, u23, u24, (.agg #[.int .i64 xak, .int .i64 xan, .string xas, .int .i64 xae]), u26, (.agg #[.int .i64 xbk, .int .i64 xbn, .string xbs, .int .i64 xbe]), u28, u29, u30, u31, u32, u33, u34, u35, u36, u37, u38, u39, u40, u41, u42, u43, u44, u45, u46, u47, u48, u49, u50, u51, u52, u53, u54, u55, u56, u57, u58, u59, u60, u61, u62], defers := [] } y0 := by
 unfold ecO
 refine bar_list (rs := [1, 5]) (by kernel_rfl) (by simp) ?_
 refine Bars.cons rfl (fun KK hKK => ?_) ?_
 · go_simp
   go_wp2_with (go_at_call 14; refine Calls.mono (cA.out _) ?_; rintro e y1 ⟨rfl, E⟩)
   replace X : Hid (Ext W1 y1) := X.out.trans E
   refine hKK.out _ _ (fun _ => mkS.out _ X.out) ?_
   clear hKK KK
   replace Gga := hx4 Gga E
   clear E
   rw [show (#[true, false, true, false, true, false, false, false] : Array Bool).setIfInBounds 1 true = #[true, true, true, false, true, false, false, false] from rfl]
   exact ec_1ga mkS cA cB hdone  ga y1 X Gga Nga
 · refine Bars.cons rfl (fun KK hKK => ?_) ?_
   · go_simp
     refine hKK.out _ _ (fun _ => mkS.out _ (X.out.alloc _)) ?_
     clear hKK KK
     obtain ⟨y1, hya⟩ : ∃ ya, World.alloc y0 (.cells #[.int .i64 0, .int .i64 0, .string ⟨#[]⟩, .int .i64 0] 25) = ya := ⟨_, rfl⟩
     obtain ⟨gb, hga⟩ : ∃ g, y0.heap.size = g := ⟨_, rfl⟩
     have E : Ext y0 y1 := by rw [← hya]; exact (Ext.refl _).alloc _
     have Ggb : Hid (Blk y1 gb (.int .i64 0) (.int .i64 0) (.string ⟨#[]⟩) (.int .i64 0)) := by rw [← hya, ← hga]; exact blk_top rfl (Ext.refl _)
     have Ngb : Hid (W1.heap.size ≤ gb) := by show _ ≤ _; rw [← hga]; exact X.out.sz
     have HD : Hid (ga ≠ gb) := by show _ ≠ _; have := Gga.out.1; rw [hga] at this; omega
     rw [hya, hga]
     replace X : Hid (Ext W1 y1) := X.out.trans E
     replace Gga := hx4 Gga E
     clear E hya hga
     rw [show (#[true, false, true, false, true, false, false, false] : Array Bool).setIfInBounds 5 true = #[true, false, true, false, true, true, false, false] from rfl]
     exact ec_0gagb mkS cA cB hdone  ga gb y1 X Gga Nga Ggb Ngb HD
   · exact Bars.nil

set_option maxRecDepth 100000 in
theorem ec_0gb {xak xan : Int} {xas : ByteArray} {xae : Int} {xbk xbn : Int} {xbs : ByteArray} {xbe : Int} {xvk xvn : Int} {xvs : ByteArray} {xve : Int} {xuk xun : Int} {xus : ByteArray} {xue : Int} {W1 : World} {S : World → Prop} {Q : Exit → Act → World → Prop} {u0 u1 u2 u3 u4 u5 u6 u7 u8 u9 u11 u12 u13 u14 u15 u16 u17 u18 u19 u20 u21 u22 u23 u24 u26 u28 u29 u30 u31 u32 u33 u34 u35 u36 u37 u38 u39 u40 u41 u42 u43 u44 u45 u46 u47 u48 u49 u50 u51 u52 u53 u54 u55 u56 u57 u58 u59 u60 u61 u62 : Value} (mkS : Hid (∀ V, Ext W1 V → S V)) (cA : Hid (∀ V, Calls Tryz.prog 14 #[.agg #[.int .i64 xak, .int .i64 xan, .string xas, .int .i64 xae]] V fun e w' => e = .returned (.agg #[.int .i64 xvk, .int .i64 xvn, .string xvs, .int .i64 xve]) ∧ Ext V w')) (cB : Hid (∀ V, Calls Tryz.prog 14 #[.agg #[.int .i64 xbk, .int .i64 xbn, .string xbs, .int .i64 xbe]] V fun e w' => e = .returned (.agg #[.int .i64 xuk, .int .i64 xun, .string xus, .int .i64 xue]) ∧ Ext V w')) (hdone : ∀   (ga : Nat) (gb : Nat) (y : World), Hid (Ext W1 y) → Hid (Blk y ga (.int .i64 xvk) (.int .i64 xvn) (.string xvs) (.int .i64 xve)) → Hid (Blk y gb (.int .i64 xuk) (.int .i64 xun) (.string xus) (.int .i64 xue)) → Hid (W1.heap.size ≤ ga) → Hid (W1.heap.size ≤ gb) → Hid (ga ≠ gb) → Q .normal { tmps := #[u0, u1, u2, u3, u4, u5, u6, u7, u8, (.pointer (some ⟨ga, 0, none⟩)), (.pointer (some ⟨gb, 0, none⟩)), u11, u12, u13, u14, u15, u16, u17, u18, u19, u20, u21, u22, u23, u24, (.agg #[.int .i64 xak, .int .i64 xan, .string xas, .int .i64 xae]), (.agg #[.int .i64 xvk, .int .i64 xvn, .string xvs, .int .i64 xve]), (.agg #[.int .i64 xbk, .int .i64 xbn, .string xbs, .int .i64 xbe]), (.agg #[.int .i64 xuk, .int .i64 xun, .string xus, .int .i64 xue]), u29, u30, u31, u32, u33, u34, u35, u36, u37, u38, u39, u40, u41, u42, u43, u44, u45, u46, u47, u48, u49, u50, u51, u52, u53, u54, u55, u56, u57, u58, u59, u60, u61, u62], defers := [] } y)  (gb : Nat) (y0 : World) (X : Hid (Ext W1 y0)) (Ggb : Hid (Blk y0 gb (.int .i64 0) (.int .i64 0) (.string ⟨#[]⟩) (.int .i64 0))) (Ngb : Hid (W1.heap.size ≤ gb)) :
   wpBar Tryz.prog .any ecO Q (fun _ => false) S 5 #[true, false, true, false, false, true, false, false] { tmps := #[u0, u1, u2, u3, u4, u5, u6, u7, u8, u9, (.pointer (some ⟨gb, 0, none⟩)), u11, u12, u13, u14, u15, u16, u17, u18, u19, u20, u21, u22, u23, u24, (.agg #[.int .i64 xak, .int .i64 xan, .string xas, .int .i64 xae]), u26, (.agg #[.int .i64 xbk, .int .i64 xbn, .string xbs, .int .i64 xbe]), u28, u29, u30, u31, u32, u33, u34, u35, u36, u37, u38, u39, u40, u41, u42, u43, u44, u45, u46, u47, u48, u49, u50, u51, u52, u53, u54, u55, u56, u57, u58, u59, u60, u61, u62], defers := [] } y0 := by
 unfold ecO
 refine bar_list (rs := [1, 4]) (by kernel_rfl) (by simp) ?_
 refine Bars.cons rfl (fun KK hKK => ?_) ?_
 · go_simp
   go_wp2_with (go_at_call 14; refine Calls.mono (cA.out _) ?_; rintro e y1 ⟨rfl, E⟩)
   replace X : Hid (Ext W1 y1) := X.out.trans E
   refine hKK.out _ _ (fun _ => mkS.out _ X.out) ?_
   clear hKK KK
   replace Ggb := hx4 Ggb E
   clear E
   rw [show (#[true, false, true, false, false, true, false, false] : Array Bool).setIfInBounds 1 true = #[true, true, true, false, false, true, false, false] from rfl]
   exact ec_1gb mkS cA cB hdone  gb y1 X Ggb Ngb
 · refine Bars.cons rfl (fun KK hKK => ?_) ?_
   · go_simp
     refine hKK.out _ _ (fun _ => mkS.out _ (X.out.alloc _)) ?_
     clear hKK KK
     obtain ⟨y1, hya⟩ : ∃ ya, World.alloc y0 (.cells #[.int .i64 0, .int .i64 0, .string ⟨#[]⟩, .int .i64 0] 25) = ya := ⟨_, rfl⟩
     obtain ⟨ga, hga⟩ : ∃ g, y0.heap.size = g := ⟨_, rfl⟩
     have E : Ext y0 y1 := by rw [← hya]; exact (Ext.refl _).alloc _
     have Gga : Hid (Blk y1 ga (.int .i64 0) (.int .i64 0) (.string ⟨#[]⟩) (.int .i64 0)) := by rw [← hya, ← hga]; exact blk_top rfl (Ext.refl _)
     have Nga : Hid (W1.heap.size ≤ ga) := by show _ ≤ _; rw [← hga]; exact X.out.sz
     have HD : Hid (ga ≠ gb) := by show _ ≠ _; have := Ggb.out.1; rw [hga] at this; omega
     rw [hya, hga]
     replace X : Hid (Ext W1 y1) := X.out.trans E
     replace Ggb := hx4 Ggb E
     clear E hya hga
     rw [show (#[true, false, true, false, false, true, false, false] : Array Bool).setIfInBounds 4 true = #[true, false, true, false, true, true, false, false] from rfl]
     exact ec_0gagb mkS cA cB hdone  ga gb y1 X Gga Nga Ggb Ngb HD
   · exact Bars.nil

set_option maxRecDepth 100000 in
theorem ec_0 {xak xan : Int} {xas : ByteArray} {xae : Int} {xbk xbn : Int} {xbs : ByteArray} {xbe : Int} {xvk xvn : Int} {xvs : ByteArray} {xve : Int} {xuk xun : Int} {xus : ByteArray} {xue : Int} {W1 : World} {S : World → Prop} {Q : Exit → Act → World → Prop} {u0 u1 u2 u3 u4 u5 u6 u7 u8 u9 u10 u11 u12 u13 u14 u15 u16 u17 u18 u19 u20 u21 u22 u23 u24 u26 u28 u29 u30 u31 u32 u33 u34 u35 u36 u37 u38 u39 u40 u41 u42 u43 u44 u45 u46 u47 u48 u49 u50 u51 u52 u53 u54 u55 u56 u57 u58 u59 u60 u61 u62 : Value} (mkS : Hid (∀ V, Ext W1 V → S V)) (cA : Hid (∀ V, Calls Tryz.prog 14 #[.agg #[.int .i64 xak, .int .i64 xan, .string xas, .int .i64 xae]] V fun e w' => e = .returned (.agg #[.int .i64 xvk, .int .i64 xvn, .string xvs, .int .i64 xve]) ∧ Ext V w')) (cB : Hid (∀ V, Calls Tryz.prog 14 #[.agg #[.int .i64 xbk, .int .i64 xbn, .string xbs, .int .i64 xbe]] V fun e w' => e = .returned (.agg #[.int .i64 xuk, .int .i64 xun, .string xus, .int .i64 xue]) ∧ Ext V w')) (hdone : ∀   (ga : Nat) (gb : Nat) (y : World), Hid (Ext W1 y) → Hid (Blk y ga (.int .i64 xvk) (.int .i64 xvn) (.string xvs) (.int .i64 xve)) → Hid (Blk y gb (.int .i64 xuk) (.int .i64 xun) (.string xus) (.int .i64 xue)) → Hid (W1.heap.size ≤ ga) → Hid (W1.heap.size ≤ gb) → Hid (ga ≠ gb) → Q .normal { tmps := #[u0, u1, u2, u3, u4, u5, u6, u7, u8, (.pointer (some ⟨ga, 0, none⟩)), (.pointer (some ⟨gb, 0, none⟩)), u11, u12, u13, u14, u15, u16, u17, u18, u19, u20, u21, u22, u23, u24, (.agg #[.int .i64 xak, .int .i64 xan, .string xas, .int .i64 xae]), (.agg #[.int .i64 xvk, .int .i64 xvn, .string xvs, .int .i64 xve]), (.agg #[.int .i64 xbk, .int .i64 xbn, .string xbs, .int .i64 xbe]), (.agg #[.int .i64 xuk, .int .i64 xun, .string xus, .int .i64 xue]), u29, u30, u31, u32, u33, u34, u35, u36, u37, u38, u39, u40, u41, u42, u43, u44, u45, u46, u47, u48, u49, u50, u51, u52, u53, u54, u55, u56, u57, u58, u59, u60, u61, u62], defers := [] } y)   (y0 : World) (X : Hid (Ext W1 y0)) :
   wpBar Tryz.prog .any ecO Q (fun _ => false) S 6 #[true, false, true, false, false, false, false, false] { tmps := #[u0, u1, u2, u3, u4, u5, u6, u7, u8, u9, u10, u11, u12, u13, u14, u15, u16, u17, u18, u19, u20, u21, u22, u23, u24, (.agg #[.int .i64 xak, .int .i64 xan, .string xas, .int .i64 xae]), u26, (.agg #[.int .i64 xbk, .int .i64 xbn, .string xbs, .int .i64 xbe]), u28, u29, u30, u31, u32, u33, u34, u35, u36, u37, u38, u39, u40, u41, u42, u43, u44, u45, u46, u47, u48, u49, u50, u51, u52, u53, u54, u55, u56, u57, u58, u59, u60, u61, u62], defers := [] } y0 := by
 unfold ecO
 refine bar_list (rs := [1, 4, 5]) (by kernel_rfl) (by simp) ?_
 refine Bars.cons rfl (fun KK hKK => ?_) ?_
 · go_simp
   go_wp2_with (go_at_call 14; refine Calls.mono (cA.out _) ?_; rintro e y1 ⟨rfl, E⟩)
   replace X : Hid (Ext W1 y1) := X.out.trans E
   refine hKK.out _ _ (fun _ => mkS.out _ X.out) ?_
   clear hKK KK
   clear E
   rw [show (#[true, false, true, false, false, false, false, false] : Array Bool).setIfInBounds 1 true = #[true, true, true, false, false, false, false, false] from rfl]
   exact ec_1 mkS cA cB hdone   y1 X
 · refine Bars.cons rfl (fun KK hKK => ?_) ?_
   · go_simp
     refine hKK.out _ _ (fun _ => mkS.out _ (X.out.alloc _)) ?_
     clear hKK KK
     obtain ⟨y1, hya⟩ : ∃ ya, World.alloc y0 (.cells #[.int .i64 0, .int .i64 0, .string ⟨#[]⟩, .int .i64 0] 25) = ya := ⟨_, rfl⟩
     obtain ⟨ga, hga⟩ : ∃ g, y0.heap.size = g := ⟨_, rfl⟩
     have E : Ext y0 y1 := by rw [← hya]; exact (Ext.refl _).alloc _
     have Gga : Hid (Blk y1 ga (.int .i64 0) (.int .i64 0) (.string ⟨#[]⟩) (.int .i64 0)) := by rw [← hya, ← hga]; exact blk_top rfl (Ext.refl _)
     have Nga : Hid (W1.heap.size ≤ ga) := by show _ ≤ _; rw [← hga]; exact X.out.sz
     rw [hya, hga]
     replace X : Hid (Ext W1 y1) := X.out.trans E
     clear E hya hga
     rw [show (#[true, false, true, false, false, false, false, false] : Array Bool).setIfInBounds 4 true = #[true, false, true, false, true, false, false, false] from rfl]
     exact ec_0ga mkS cA cB hdone  ga y1 X Gga Nga
   · refine Bars.cons rfl (fun KK hKK => ?_) ?_
     · go_simp
       refine hKK.out _ _ (fun _ => mkS.out _ (X.out.alloc _)) ?_
       clear hKK KK
       obtain ⟨y1, hya⟩ : ∃ ya, World.alloc y0 (.cells #[.int .i64 0, .int .i64 0, .string ⟨#[]⟩, .int .i64 0] 25) = ya := ⟨_, rfl⟩
       obtain ⟨gb, hga⟩ : ∃ g, y0.heap.size = g := ⟨_, rfl⟩
       have E : Ext y0 y1 := by rw [← hya]; exact (Ext.refl _).alloc _
       have Ggb : Hid (Blk y1 gb (.int .i64 0) (.int .i64 0) (.string ⟨#[]⟩) (.int .i64 0)) := by rw [← hya, ← hga]; exact blk_top rfl (Ext.refl _)
       have Ngb : Hid (W1.heap.size ≤ gb) := by show _ ≤ _; rw [← hga]; exact X.out.sz
       rw [hya, hga]
       replace X : Hid (Ext W1 y1) := X.out.trans E
       clear E hya hga
       rw [show (#[true, false, true, false, false, false, false, false] : Array Bool).setIfInBounds 5 true = #[true, false, true, false, false, true, false, false] from rfl]
       exact ec_0gb mkS cA cB hdone  gb y1 X Ggb Ngb
     · exact Bars.nil

end Go.Proofs.YtalejeknigbhjaaGreatDoor
