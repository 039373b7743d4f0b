/-
 What is known of a block or a list, hidden, lasts.
 The document's answer for layer 10: two places that are moved, in whichever order their blocks are laid.
-/
import Derived.Test.YtcggiljlilbdfaaV38
import Derived.Test.YtcggiljlilbdfaaV22
import Derived.Test.YtcggiljlilbdfaaV46
namespace Go.Proofs.Ytcggiljlilbdfaa
open Go.RowKit
theorem hx4 {w w' : World} {b : Nat} {x0 x1 x2 x3 : Value} (h : Hid (Blk w b x0 x1 x2 x3)) (e : Ext w w') : Hid (Blk w' b x0 x1 x2 x3) := h.out.ext e
theorem hx13 {w w' : World} {b : Nat} {t : T} {v : Value} (h : Hid (BlkX w b t v)) (e : Ext w w') : Hid (BlkX w' b t v) := h.out.ext e
theorem hxL {w w' : World} {P : Nat → Prop} {v : Value} {l : List T} (h : Hid (IsL w P v l)) (e : Ext w w') : Hid (IsL w' P v l) := h.out.ext e

open Go.RowKit
set_option maxHeartbeats 6000000

def frO : Array Oper := #[⟨some 11, .fieldAddr 26 (.tmp 3) 4, 0, "ref.go:52", #[], none⟩, ⟨some 12, .load 23 (.tmp 11), 23, "ref.go:52", #[⟨0, .data⟩], none⟩, ⟨some 13, .move (.tmp 1), 3, "ref.go:52", #[], none⟩, ⟨some 14, .move (.tmp 2), 3, "ref.go:52", #[], none⟩, ⟨some 15, .call { callee := .value (.func 43), args := #[.tmp 12, .tmp 13, .tmp 14], argTypes := #[23, 3, 3] }, 23, "ref.go:52", #[⟨1, .data⟩, ⟨2, .data⟩, ⟨3, .data⟩], none⟩, ⟨some 16, .fieldAddr 26 (.tmp 3) 5, 0, "ref.go:52", #[], none⟩, ⟨some 17, .load 23 (.tmp 16), 23, "ref.go:52", #[⟨5, .data⟩], none⟩, ⟨some 18, .move (.tmp 1), 3, "ref.go:52", #[], none⟩, ⟨some 19, .move (.tmp 2), 3, "ref.go:52", #[], none⟩, ⟨some 20, .call { callee := .value (.func 43), args := #[.tmp 17, .tmp 18, .tmp 19], argTypes := #[23, 3, 3] }, 23, "ref.go:52", #[⟨6, .data⟩, ⟨7, .data⟩, ⟨8, .data⟩, ⟨4, .chain⟩], none⟩, ⟨some 7, .alloc 23, 0, "ref.go:52", #[], none⟩, ⟨some 8, .alloc 23, 0, "ref.go:52", #[], none⟩, ⟨none, .store 23 (.tmp 7) (.tmp 15), 0, "ref.go:52", #[⟨10, .data⟩, ⟨4, .data⟩, ⟨9, .chain⟩, ⟨0, .phase⟩, ⟨1, .phase⟩, ⟨2, .phase⟩, ⟨3, .phase⟩, ⟨4, .phase⟩, { on := 5, ground := Ground.textOnly Departure.lateStores }, { on := 6, ground := Ground.textOnly Departure.lateStores }, { on := 7, ground := Ground.textOnly Departure.lateStores }, { on := 8, ground := Ground.textOnly Departure.lateStores }, { on := 9, ground := Ground.textOnly Departure.lateStoresUnsure }, ⟨10, .phase⟩, ⟨11, .phase⟩], none⟩, ⟨none, .store 23 (.tmp 8) (.tmp 20), 0, "ref.go:52", #[⟨11, .data⟩, ⟨9, .data⟩, ⟨12, .chain⟩, ⟨0, .phase⟩, ⟨1, .phase⟩, ⟨2, .phase⟩, ⟨3, .phase⟩, ⟨4, .phase⟩, ⟨5, .phase⟩, ⟨6, .phase⟩, ⟨7, .phase⟩, ⟨8, .phase⟩, ⟨9, .phase⟩, ⟨10, .phase⟩, ⟨11, .phase⟩, ⟨12, .phase⟩], none⟩]
def frE (u0 u1 u2 u3 u4 u5 u6 u9 u10 u11 u16 u21 u22 u23 u24 u25 u26 u27 u28 u29 u30 u31 u32 u33 u34 u35 u36 u37 u38 u39 u40 u41 u42 u43 u44 u45 u46 u47 u48 u49 u50 u51 u52 u53 u54 u55 u56 u57 u58 u59 u60 u61 u62 u63 u64 u65 u66 u67 u68 u69 u70 u71 u72 u73 u74 u75 u76 u77 u78 u79 u80 u81 u82 u83 u84 : Value) (a b r q : Rf) (row col : Int) (W1 : World) (N1 : Nat) (S : World → Prop) (Q : Exit → Act → World → Prop) : Prop := (Hid (N1 + 1 = W1.heap.size)) ∧ (Hid (∀ V, Ext W1 V → S V)) ∧ (Hid (∀ V, Calls Try.prog 43 #[.agg #[.int .i64 a.1, .int .i64 a.2.1, .bool a.2.2.1, .bool a.2.2.2], .int .i64 row, .int .i64 col] V fun e w' => e = .returned (.agg #[.int .i64 r.1, .int .i64 r.2.1, .bool r.2.2.1, .bool r.2.2.2]) ∧ Ext V w')) ∧ (Hid (∀ V, Calls Try.prog 43 #[.agg #[.int .i64 b.1, .int .i64 b.2.1, .bool b.2.2.1, .bool b.2.2.2], .int .i64 row, .int .i64 col] V fun e w' => e = .returned (.agg #[.int .i64 q.1, .int .i64 q.2.1, .bool q.2.2.1, .bool q.2.2.2]) ∧ Ext V w')) ∧ (∀ (ga gb : Nat) (y : World), Hid (Ext W1 y) → Hid (Blk y ga (.int .i64 r.1) (.int .i64 r.2.1) (.bool r.2.2.1) (.bool r.2.2.2)) → Hid (N1 < ga) → Hid (Blk y gb (.int .i64 q.1) (.int .i64 q.2.1) (.bool q.2.2.1) (.bool q.2.2.2)) → Hid (N1 < gb) → Hid (ga ≠ gb) → Q .normal { tmps := #[u0, u1, u2, u3, u4, u5, u6, (.pointer (some ⟨ga, 0, none⟩)), (.pointer (some ⟨gb, 0, none⟩)), u9, u10, u11, (.agg #[.int .i64 a.1, .int .i64 a.2.1, .bool a.2.2.1, .bool a.2.2.2]), (.int .i64 row), (.int .i64 col), (.agg #[.int .i64 r.1, .int .i64 r.2.1, .bool r.2.2.1, .bool r.2.2.2]), u16, (.agg #[.int .i64 b.1, .int .i64 b.2.1, .bool b.2.2.1, .bool b.2.2.2]), (.int .i64 row), (.int .i64 col), (.agg #[.int .i64 q.1, .int .i64 q.2.1, .bool q.2.2.1, .bool q.2.2.2]), u21, u22, u23, u24, u25, u26, u27, u28, u29, u30, u31, u32, u33, u34, u35, u36, u37, u38, u39, u40, u41, u42, u43, u44, u45, u46, u47, u48, u49, u50, u51, u52, u53, u54, u55, u56, u57, u58, u59, u60, u61, u62, u63, u64, u65, u66, u67, u68, u69, u70, u71, u72, u73, u74, u75, u76, u77, u78, u79, u80, u81, u82, u83, u84], defers := [] } y)
set_option maxRecDepth 100000 in
theorem fr_2gagb {u0 u1 u2 u3 u4 u5 u6 u9 u10 u11 u16 u21 u22 u23 u24 u25 u26 u27 u28 u29 u30 u31 u32 u33 u34 u35 u36 u37 u38 u39 u40 u41 u42 u43 u44 u45 u46 u47 u48 u49 u50 u51 u52 u53 u54 u55 u56 u57 u58 u59 u60 u61 u62 u63 u64 u65 u66 u67 u68 u69 u70 u71 u72 u73 u74 u75 u76 u77 u78 u79 u80 u81 u82 u83 u84 : Value} {a b r q : Rf} {row col : Int} {W1 : World} {N1 : Nat} {S : World → Prop} {Q : Exit → Act → World → Prop} (hE : frE u0 u1 u2 u3 u4 u5 u6 u9 u10 u11 u16 u21 u22 u23 u24 u25 u26 u27 u28 u29 u30 u31 u32 u33 u34 u35 u36 u37 u38 u39 u40 u41 u42 u43 u44 u45 u46 u47 u48 u49 u50 u51 u52 u53 u54 u55 u56 u57 u58 u59 u60 u61 u62 u63 u64 u65 u66 u67 u68 u69 u70 u71 u72 u73 u74 u75 u76 u77 u78 u79 u80 u81 u82 u83 u84 a b r q row col W1 N1 S Q)   (ga : Nat) (gb : Nat) (y0 : World) (X : Hid (Ext W1 y0)) (GA : Hid (Blk y0 ga (.int .i64 0) (.int .i64 0) (.bool false) (.bool false))) (NGA : Hid (N1 < ga)) (GB : Hid (Blk y0 gb (.int .i64 0) (.int .i64 0) (.bool false) (.bool false))) (NGB : Hid (N1 < gb)) (HD : Hid (ga ≠ gb)) :
   wpBar Try.prog .any frO Q (fun _ => false) S 2 #[true, true, true, true, true, true, true, true, true, true, true, true, false, false] { tmps := #[u0, u1, u2, u3, u4, u5, u6, (.pointer (some ⟨ga, 0, none⟩)), (.pointer (some ⟨gb, 0, none⟩)), u9, u10, u11, (.agg #[.int .i64 a.1, .int .i64 a.2.1, .bool a.2.2.1, .bool a.2.2.2]), (.int .i64 row), (.int .i64 col), (.agg #[.int .i64 r.1, .int .i64 r.2.1, .bool r.2.2.1, .bool r.2.2.2]), u16, (.agg #[.int .i64 b.1, .int .i64 b.2.1, .bool b.2.2.1, .bool b.2.2.2]), (.int .i64 row), (.int .i64 col), (.agg #[.int .i64 q.1, .int .i64 q.2.1, .bool q.2.2.1, .bool q.2.2.2]), u21, u22, u23, u24, u25, u26, u27, u28, u29, u30, u31, u32, u33, u34, u35, u36, u37, u38, u39, u40, u41, u42, u43, u44, u45, u46, u47, u48, u49, u50, u51, u52, u53, u54, u55, u56, u57, u58, u59, u60, u61, u62, u63, u64, u65, u66, u67, u68, u69, u70, u71, u72, u73, u74, u75, u76, u77, u78, u79, u80, u81, u82, u83, u84], defers := [] } y0 := by
 unfold frO
 have hE2 := hE
 obtain ⟨HNW, mkS, c1, c2, hdone⟩ := hE2
 obtain ⟨za, ⟨a0, a1, a2, a3⟩, af0, af1, af2, af3⟩ := GA.out
 refine bar_one (i := 12) (by kernel_rfl) rfl (fun KK hKK => ?_)
 go_simp
 have EP : Hid (Ext W1 ((((y0.setCell ⟨ga, 0, none⟩ (.int .i64 r.1)).setCell ⟨ga, 1, none⟩ (.int .i64 r.2.1)).setCell ⟨ga, 2, none⟩ (.bool r.2.2.1)).setCell ⟨ga, 3, none⟩ (.bool r.2.2.2))) := (((X.out.setCell (p := ⟨ga, 0, none⟩) (by have h1 := HNW.out; have h3 := NGA.out; show W1.heap.size ≤ ga; omega) _).setCell (p := ⟨ga, 1, none⟩) (by have h1 := HNW.out; have h3 := NGA.out; show W1.heap.size ≤ ga; omega) _).setCell (p := ⟨ga, 2, none⟩) (by have h1 := HNW.out; have h3 := NGA.out; show W1.heap.size ≤ ga; omega) _).setCell (p := ⟨ga, 3, none⟩) (by have h1 := HNW.out; have h3 := NGA.out; show W1.heap.size ≤ ga; omega) _
 refine hKK.out _ ((((y0.setCell ⟨ga, 0, none⟩ (.int .i64 r.1)).setCell ⟨ga, 1, none⟩ (.int .i64 r.2.1)).setCell ⟨ga, 2, none⟩ (.bool r.2.2.1)).setCell ⟨ga, 3, none⟩ (.bool r.2.2.2)) (fun _ => mkS.out _ EP.out) ?_
 clear hKK KK za a0 a1 a2 a3 af0 af1 af2 af3
 replace GA : Hid (Blk ((((y0.setCell ⟨ga, 0, none⟩ (.int .i64 r.1)).setCell ⟨ga, 1, none⟩ (.int .i64 r.2.1)).setCell ⟨ga, 2, none⟩ (.bool r.2.2.1)).setCell ⟨ga, 3, none⟩ (.bool r.2.2.2)) ga (.int .i64 r.1) (.int .i64 r.2.1) (.bool r.2.2.1) (.bool r.2.2.2)) := GA.out.set _ _ _ _
 replace GB : Hid (Blk ((((y0.setCell ⟨ga, 0, none⟩ (.int .i64 r.1)).setCell ⟨ga, 1, none⟩ (.int .i64 r.2.1)).setCell ⟨ga, 2, none⟩ (.bool r.2.2.1)).setCell ⟨ga, 3, none⟩ (.bool r.2.2.2)) gb (.int .i64 0) (.int .i64 0) (.bool false) (.bool false)) := GB.out.far HD.out _ _ _ _
 replace X := EP
 clear EP
 generalize (((y0.setCell ⟨ga, 0, none⟩ (.int .i64 r.1)).setCell ⟨ga, 1, none⟩ (.int .i64 r.2.1)).setCell ⟨ga, 2, none⟩ (.bool r.2.2.1)).setCell ⟨ga, 3, none⟩ (.bool r.2.2.2) = w2 at *
 rw [show (#[true, true, true, true, true, true, true, true, true, true, true, true, false, false] : Array Bool).setIfInBounds 12 true = #[true, true, true, true, true, true, true, true, true, true, true, true, true, false] from rfl]
 obtain ⟨za, ⟨a0, a1, a2, a3⟩, af0, af1, af2, af3⟩ := GB.out
 refine bar_one (i := 13) (by kernel_rfl) rfl (fun KK hKK => ?_)
 go_simp
 have EP : Hid (Ext W1 ((((w2.setCell ⟨gb, 0, none⟩ (.int .i64 q.1)).setCell ⟨gb, 1, none⟩ (.int .i64 q.2.1)).setCell ⟨gb, 2, none⟩ (.bool q.2.2.1)).setCell ⟨gb, 3, none⟩ (.bool q.2.2.2))) := (((X.out.setCell (p := ⟨gb, 0, none⟩) (by have h1 := HNW.out; have h3 := NGB.out; show W1.heap.size ≤ gb; omega) _).setCell (p := ⟨gb, 1, none⟩) (by have h1 := HNW.out; have h3 := NGB.out; show W1.heap.size ≤ gb; omega) _).setCell (p := ⟨gb, 2, none⟩) (by have h1 := HNW.out; have h3 := NGB.out; show W1.heap.size ≤ gb; omega) _).setCell (p := ⟨gb, 3, none⟩) (by have h1 := HNW.out; have h3 := NGB.out; show W1.heap.size ≤ gb; omega) _
 refine hKK.out _ ((((w2.setCell ⟨gb, 0, none⟩ (.int .i64 q.1)).setCell ⟨gb, 1, none⟩ (.int .i64 q.2.1)).setCell ⟨gb, 2, none⟩ (.bool q.2.2.1)).setCell ⟨gb, 3, none⟩ (.bool q.2.2.2)) (fun _ => mkS.out _ EP.out) ?_
 clear hKK KK za a0 a1 a2 a3 af0 af1 af2 af3
 replace GB : Hid (Blk ((((w2.setCell ⟨gb, 0, none⟩ (.int .i64 q.1)).setCell ⟨gb, 1, none⟩ (.int .i64 q.2.1)).setCell ⟨gb, 2, none⟩ (.bool q.2.2.1)).setCell ⟨gb, 3, none⟩ (.bool q.2.2.2)) gb (.int .i64 q.1) (.int .i64 q.2.1) (.bool q.2.2.1) (.bool q.2.2.2)) := GB.out.set _ _ _ _
 replace GA : Hid (Blk ((((w2.setCell ⟨gb, 0, none⟩ (.int .i64 q.1)).setCell ⟨gb, 1, none⟩ (.int .i64 q.2.1)).setCell ⟨gb, 2, none⟩ (.bool q.2.2.1)).setCell ⟨gb, 3, none⟩ (.bool q.2.2.2)) ga (.int .i64 r.1) (.int .i64 r.2.1) (.bool r.2.2.1) (.bool r.2.2.2)) := GA.out.far (Ne.symm HD.out) _ _ _ _
 replace X := EP
 clear EP
 generalize (((w2.setCell ⟨gb, 0, none⟩ (.int .i64 q.1)).setCell ⟨gb, 1, none⟩ (.int .i64 q.2.1)).setCell ⟨gb, 2, none⟩ (.bool q.2.2.1)).setCell ⟨gb, 3, none⟩ (.bool q.2.2.2) = w3 at *
 rw [show (#[true, true, true, true, true, true, true, true, true, true, true, true, true, false] : Array Bool).setIfInBounds 13 true = #[true, true, true, true, true, true, true, true, true, true, true, true, true, true] from rfl]
 refine bar_done (by kernel_rfl) ?_ _
 exact hdone   ga gb w3 X GA NGA GB NGB HD

set_option maxRecDepth 100000 in
theorem fr_2ga {u0 u1 u2 u3 u4 u5 u6 u8 u9 u10 u11 u16 u21 u22 u23 u24 u25 u26 u27 u28 u29 u30 u31 u32 u33 u34 u35 u36 u37 u38 u39 u40 u41 u42 u43 u44 u45 u46 u47 u48 u49 u50 u51 u52 u53 u54 u55 u56 u57 u58 u59 u60 u61 u62 u63 u64 u65 u66 u67 u68 u69 u70 u71 u72 u73 u74 u75 u76 u77 u78 u79 u80 u81 u82 u83 u84 : Value} {a b r q : Rf} {row col : Int} {W1 : World} {N1 : Nat} {S : World → Prop} {Q : Exit → Act → World → Prop} (hE : frE u0 u1 u2 u3 u4 u5 u6 u9 u10 u11 u16 u21 u22 u23 u24 u25 u26 u27 u28 u29 u30 u31 u32 u33 u34 u35 u36 u37 u38 u39 u40 u41 u42 u43 u44 u45 u46 u47 u48 u49 u50 u51 u52 u53 u54 u55 u56 u57 u58 u59 u60 u61 u62 u63 u64 u65 u66 u67 u68 u69 u70 u71 u72 u73 u74 u75 u76 u77 u78 u79 u80 u81 u82 u83 u84 a b r q row col W1 N1 S Q)   (ga : Nat) (y0 : World) (X : Hid (Ext W1 y0)) (GA : Hid (Blk y0 ga (.int .i64 0) (.int .i64 0) (.bool false) (.bool false))) (NGA : Hid (N1 < ga)) :
   wpBar Try.prog .any frO Q (fun _ => false) S 3 #[true, true, true, true, true, true, true, true, true, true, true, false, false, false] { tmps := #[u0, u1, u2, u3, u4, u5, u6, (.pointer (some ⟨ga, 0, none⟩)), u8, u9, u10, u11, (.agg #[.int .i64 a.1, .int .i64 a.2.1, .bool a.2.2.1, .bool a.2.2.2]), (.int .i64 row), (.int .i64 col), (.agg #[.int .i64 r.1, .int .i64 r.2.1, .bool r.2.2.1, .bool r.2.2.2]), u16, (.agg #[.int .i64 b.1, .int .i64 b.2.1, .bool b.2.2.1, .bool b.2.2.2]), (.int .i64 row), (.int .i64 col), (.agg #[.int .i64 q.1, .int .i64 q.2.1, .bool q.2.2.1, .bool q.2.2.2]), u21, u22, u23, u24, u25, u26, u27, u28, u29, u30, u31, u32, u33, u34, u35, u36, u37, u38, u39, u40, u41, u42, u43, u44, u45, u46, u47, u48, u49, u50, u51, u52, u53, u54, u55, u56, u57, u58, u59, u60, u61, u62, u63, u64, u65, u66, u67, u68, u69, u70, u71, u72, u73, u74, u75, u76, u77, u78, u79, u80, u81, u82, u83, u84], defers := [] } y0 := by
 unfold frO
 have hE2 := hE
 obtain ⟨HNW, mkS, c1, c2, hdone⟩ := hE2
 refine bar_one (i := 11) (by kernel_rfl) rfl (fun KK hKK => ?_)
 go_simp
 refine hKK.out _ _ (fun _ => mkS.out _ (X.out.alloc _)) ?_
 clear hKK KK
 obtain ⟨y1, hya⟩ : ∃ ya, World.alloc y0 (.cells #[.int .i64 0, .int .i64 0, .bool false, .bool false] 23) = ya := ⟨_, rfl⟩
 obtain ⟨gb, hga⟩ : ∃ g, y0.heap.size = g := ⟨_, rfl⟩
 have E : Ext y0 y1 := by rw [← hya]; exact (Ext.refl _).alloc _
 have GB : Hid (Blk y1 gb (.int .i64 0) (.int .i64 0) (.bool false) (.bool false)) := by rw [← hya, ← hga]; exact blk_top rfl (Ext.refl _)
 have NGB : Hid (N1 < gb) := by show _ < _; rw [← hga]; have h1 := HNW.out; have h2 := X.out.sz; omega
 have HD : Hid (ga ≠ gb) := by show _ ≠ _; have := GA.out.1; rw [hga] at this; omega
 rw [hya, hga]
 replace X : Hid (Ext W1 y1) := X.out.trans E
 replace GA := hx4 GA E
 clear E hya hga
 rw [show (#[true, true, true, true, true, true, true, true, true, true, true, false, false, false] : Array Bool).setIfInBounds 11 true = #[true, true, true, true, true, true, true, true, true, true, true, true, false, false] from rfl]
 exact fr_2gagb hE   ga gb y1 X GA NGA GB NGB HD

set_option maxRecDepth 100000 in
theorem fr_2gb {u0 u1 u2 u3 u4 u5 u6 u7 u9 u10 u11 u16 u21 u22 u23 u24 u25 u26 u27 u28 u29 u30 u31 u32 u33 u34 u35 u36 u37 u38 u39 u40 u41 u42 u43 u44 u45 u46 u47 u48 u49 u50 u51 u52 u53 u54 u55 u56 u57 u58 u59 u60 u61 u62 u63 u64 u65 u66 u67 u68 u69 u70 u71 u72 u73 u74 u75 u76 u77 u78 u79 u80 u81 u82 u83 u84 : Value} {a b r q : Rf} {row col : Int} {W1 : World} {N1 : Nat} {S : World → Prop} {Q : Exit → Act → World → Prop} (hE : frE u0 u1 u2 u3 u4 u5 u6 u9 u10 u11 u16 u21 u22 u23 u24 u25 u26 u27 u28 u29 u30 u31 u32 u33 u34 u35 u36 u37 u38 u39 u40 u41 u42 u43 u44 u45 u46 u47 u48 u49 u50 u51 u52 u53 u54 u55 u56 u57 u58 u59 u60 u61 u62 u63 u64 u65 u66 u67 u68 u69 u70 u71 u72 u73 u74 u75 u76 u77 u78 u79 u80 u81 u82 u83 u84 a b r q row col W1 N1 S Q)   (gb : Nat) (y0 : World) (X : Hid (Ext W1 y0)) (GB : Hid (Blk y0 gb (.int .i64 0) (.int .i64 0) (.bool false) (.bool false))) (NGB : Hid (N1 < gb)) :
   wpBar Try.prog .any frO Q (fun _ => false) S 3 #[true, true, true, true, true, true, true, true, true, true, false, true, false, false] { tmps := #[u0, u1, u2, u3, u4, u5, u6, u7, (.pointer (some ⟨gb, 0, none⟩)), u9, u10, u11, (.agg #[.int .i64 a.1, .int .i64 a.2.1, .bool a.2.2.1, .bool a.2.2.2]), (.int .i64 row), (.int .i64 col), (.agg #[.int .i64 r.1, .int .i64 r.2.1, .bool r.2.2.1, .bool r.2.2.2]), u16, (.agg #[.int .i64 b.1, .int .i64 b.2.1, .bool b.2.2.1, .bool b.2.2.2]), (.int .i64 row), (.int .i64 col), (.agg #[.int .i64 q.1, .int .i64 q.2.1, .bool q.2.2.1, .bool q.2.2.2]), u21, u22, u23, u24, u25, u26, u27, u28, u29, u30, u31, u32, u33, u34, u35, u36, u37, u38, u39, u40, u41, u42, u43, u44, u45, u46, u47, u48, u49, u50, u51, u52, u53, u54, u55, u56, u57, u58, u59, u60, u61, u62, u63, u64, u65, u66, u67, u68, u69, u70, u71, u72, u73, u74, u75, u76, u77, u78, u79, u80, u81, u82, u83, u84], defers := [] } y0 := by
 unfold frO
 have hE2 := hE
 obtain ⟨HNW, mkS, c1, c2, hdone⟩ := hE2
 refine bar_one (i := 10) (by kernel_rfl) rfl (fun KK hKK => ?_)
 go_simp
 refine hKK.out _ _ (fun _ => mkS.out _ (X.out.alloc _)) ?_
 clear hKK KK
 obtain ⟨y1, hya⟩ : ∃ ya, World.alloc y0 (.cells #[.int .i64 0, .int .i64 0, .bool false, .bool false] 23) = ya := ⟨_, rfl⟩
 obtain ⟨ga, hga⟩ : ∃ g, y0.heap.size = g := ⟨_, rfl⟩
 have E : Ext y0 y1 := by rw [← hya]; exact (Ext.refl _).alloc _
 have GA : Hid (Blk y1 ga (.int .i64 0) (.int .i64 0) (.bool false) (.bool false)) := by rw [← hya, ← hga]; exact blk_top rfl (Ext.refl _)
 have NGA : Hid (N1 < ga) := by show _ < _; rw [← hga]; have h1 := HNW.out; have h2 := X.out.sz; omega
 have HD : Hid (ga ≠ gb) := by show _ ≠ _; have := GB.out.1; rw [hga] at this; omega
 rw [hya, hga]
 replace X : Hid (Ext W1 y1) := X.out.trans E
 replace GB := hx4 GB E
 clear E hya hga
 rw [show (#[true, true, true, true, true, true, true, true, true, true, false, true, false, false] : Array Bool).setIfInBounds 10 true = #[true, true, true, true, true, true, true, true, true, true, true, true, false, false] from rfl]
 exact fr_2gagb hE   ga gb y1 X GA NGA GB NGB HD

set_option maxRecDepth 100000 in
theorem fr_2 {u0 u1 u2 u3 u4 u5 u6 u7 u8 u9 u10 u11 u16 u21 u22 u23 u24 u25 u26 u27 u28 u29 u30 u31 u32 u33 u34 u35 u36 u37 u38 u39 u40 u41 u42 u43 u44 u45 u46 u47 u48 u49 u50 u51 u52 u53 u54 u55 u56 u57 u58 u59 u60 u61 u62 u63 u64 u65 u66 u67 u68 u69 u70 u71 u72 u73 u74 u75 u76 u77 u78 u79 u80 u81 u82 u83 u84 : Value} {a b r q : Rf} {row col : Int} {W1 : World} {N1 : Nat} {S : World → Prop} {Q : Exit → Act → World → Prop} (hE : frE u0 u1 u2 u3 u4 u5 u6 u9 u10 u11 u16 u21 u22 u23 u24 u25 u26 u27 u28 u29 u30 u31 u32 u33 u34 u35 u36 u37 u38 u39 u40 u41 u42 u43 u44 u45 u46 u47 u48 u49 u50 u51 u52 u53 u54 u55 u56 u57 u58 u59 u60 u61 u62 u63 u64 u65 u66 u67 u68 u69 u70 u71 u72 u73 u74 u75 u76 u77 u78 u79 u80 u81 u82 u83 u84 a b r q row col W1 N1 S Q)    (y0 : World) (X : Hid (Ext W1 y0)) :
   wpBar Try.prog .any frO Q (fun _ => false) S 4 #[true, true, true, true, true, true, true, true, true, true, false, false, false, false] { tmps := #[u0, u1, u2, u3, u4, u5, u6, u7, u8, u9, u10, u11, (.agg #[.int .i64 a.1, .int .i64 a.2.1, .bool a.2.2.1, .bool a.2.2.2]), (.int .i64 row), (.int .i64 col), (.agg #[.int .i64 r.1, .int .i64 r.2.1, .bool r.2.2.1, .bool r.2.2.2]), u16, (.agg #[.int .i64 b.1, .int .i64 b.2.1, .bool b.2.2.1, .bool b.2.2.2]), (.int .i64 row), (.int .i64 col), (.agg #[.int .i64 q.1, .int .i64 q.2.1, .bool q.2.2.1, .bool q.2.2.2]), u21, u22, u23, u24, u25, u26, u27, u28, u29, u30, u31, u32, u33, u34, u35, u36, u37, u38, u39, u40, u41, u42, u43, u44, u45, u46, u47, u48, u49, u50, u51, u52, u53, u54, u55, u56, u57, u58, u59, u60, u61, u62, u63, u64, u65, u66, u67, u68, u69, u70, u71, u72, u73, u74, u75, u76, u77, u78, u79, u80, u81, u82, u83, u84], defers := [] } y0 := by
 unfold frO
 have hE2 := hE
 obtain ⟨HNW, mkS, c1, c2, hdone⟩ := hE2
 refine bar_list (rs := [10, 11]) (by kernel_rfl) (by simp) ?_
 refine Bars.cons rfl (fun KK hKK => ?_) ?_
 · go_simp
   refine hKK.out _ _ (fun _ => mkS.out _ (X.out.alloc _)) ?_
   clear hKK KK
   obtain ⟨y1, hya⟩ : ∃ ya, World.alloc y0 (.cells #[.int .i64 0, .int .i64 0, .bool false, .bool false] 23) = ya := ⟨_, rfl⟩
   obtain ⟨ga, hga⟩ : ∃ g, y0.heap.size = g := ⟨_, rfl⟩
   have E : Ext y0 y1 := by rw [← hya]; exact (Ext.refl _).alloc _
   have GA : Hid (Blk y1 ga (.int .i64 0) (.int .i64 0) (.bool false) (.bool false)) := by rw [← hya, ← hga]; exact blk_top rfl (Ext.refl _)
   have NGA : Hid (N1 < ga) := by show _ < _; rw [← hga]; have h1 := HNW.out; have h2 := X.out.sz; omega
   rw [hya, hga]
   replace X : Hid (Ext W1 y1) := X.out.trans E
   clear E hya hga
   rw [show (#[true, true, true, true, true, true, true, true, true, true, false, false, false, false] : Array Bool).setIfInBounds 10 true = #[true, true, true, true, true, true, true, true, true, true, true, false, false, false] from rfl]
   exact fr_2ga hE   ga y1 X GA NGA
 · refine Bars.cons rfl (fun KK hKK => ?_) ?_
   · go_simp
     refine hKK.out _ _ (fun _ => mkS.out _ (X.out.alloc _)) ?_
     clear hKK KK
     obtain ⟨y1, hya⟩ : ∃ ya, World.alloc y0 (.cells #[.int .i64 0, .int .i64 0, .bool false, .bool false] 23) = ya := ⟨_, rfl⟩
     obtain ⟨gb, hga⟩ : ∃ g, y0.heap.size = g := ⟨_, rfl⟩
     have E : Ext y0 y1 := by rw [← hya]; exact (Ext.refl _).alloc _
     have GB : Hid (Blk y1 gb (.int .i64 0) (.int .i64 0) (.bool false) (.bool false)) := by rw [← hya, ← hga]; exact blk_top rfl (Ext.refl _)
     have NGB : Hid (N1 < gb) := by show _ < _; rw [← hga]; have h1 := HNW.out; have h2 := X.out.sz; omega
     rw [hya, hga]
     replace X : Hid (Ext W1 y1) := X.out.trans E
     clear E hya hga
     rw [show (#[true, true, true, true, true, true, true, true, true, true, false, false, false, false] : Array Bool).setIfInBounds 11 true = #[true, true, true, true, true, true, true, true, true, true, false, true, false, false] from rfl]
     exact fr_2gb hE   gb y1 X GB NGB
   · exact Bars.nil

set_option maxRecDepth 100000 in
theorem fr_1gagb {u0 u1 u2 u3 u4 u5 u6 u9 u10 u11 u16 u20 u21 u22 u23 u24 u25 u26 u27 u28 u29 u30 u31 u32 u33 u34 u35 u36 u37 u38 u39 u40 u41 u42 u43 u44 u45 u46 u47 u48 u49 u50 u51 u52 u53 u54 u55 u56 u57 u58 u59 u60 u61 u62 u63 u64 u65 u66 u67 u68 u69 u70 u71 u72 u73 u74 u75 u76 u77 u78 u79 u80 u81 u82 u83 u84 : Value} {a b r q : Rf} {row col : Int} {W1 : World} {N1 : Nat} {S : World → Prop} {Q : Exit → Act → World → Prop} (hE : frE u0 u1 u2 u3 u4 u5 u6 u9 u10 u11 u16 u21 u22 u23 u24 u25 u26 u27 u28 u29 u30 u31 u32 u33 u34 u35 u36 u37 u38 u39 u40 u41 u42 u43 u44 u45 u46 u47 u48 u49 u50 u51 u52 u53 u54 u55 u56 u57 u58 u59 u60 u61 u62 u63 u64 u65 u66 u67 u68 u69 u70 u71 u72 u73 u74 u75 u76 u77 u78 u79 u80 u81 u82 u83 u84 a b r q row col W1 N1 S Q)  (ga : Nat) (gb : Nat) (y0 : World) (X : Hid (Ext W1 y0)) (GA : Hid (Blk y0 ga (.int .i64 0) (.int .i64 0) (.bool false) (.bool false))) (NGA : Hid (N1 < ga)) (GB : Hid (Blk y0 gb (.int .i64 0) (.int .i64 0) (.bool false) (.bool false))) (NGB : Hid (N1 < gb)) (HD : Hid (ga ≠ gb)) :
   wpBar Try.prog .any frO Q (fun _ => false) S 3 #[true, true, true, true, true, true, true, true, true, false, true, true, false, false] { tmps := #[u0, u1, u2, u3, u4, u5, u6, (.pointer (some ⟨ga, 0, none⟩)), (.pointer (some ⟨gb, 0, none⟩)), u9, u10, u11, (.agg #[.int .i64 a.1, .int .i64 a.2.1, .bool a.2.2.1, .bool a.2.2.2]), (.int .i64 row), (.int .i64 col), (.agg #[.int .i64 r.1, .int .i64 r.2.1, .bool r.2.2.1, .bool r.2.2.2]), u16, (.agg #[.int .i64 b.1, .int .i64 b.2.1, .bool b.2.2.1, .bool b.2.2.2]), (.int .i64 row), (.int .i64 col), u20, u21, u22, u23, u24, u25, u26, u27, u28, u29, u30, u31, u32, u33, u34, u35, u36, u37, u38, u39, u40, u41, u42, u43, u44, u45, u46, u47, u48, u49, u50, u51, u52, u53, u54, u55, u56, u57, u58, u59, u60, u61, u62, u63, u64, u65, u66, u67, u68, u69, u70, u71, u72, u73, u74, u75, u76, u77, u78, u79, u80, u81, u82, u83, u84], defers := [] } y0 := by
 unfold frO
 have hE2 := hE
 obtain ⟨HNW, mkS, c1, c2, hdone⟩ := hE2
 refine bar_one (i := 9) (by kernel_rfl) rfl (fun KK hKK => ?_)
 go_simp
 go_wp2_with (go_at_call 43; refine Calls.mono (c2.out _) ?_; rintro e y1 ⟨rfl, E⟩)
 replace X : Hid (Ext W1 y1) := X.out.trans E
 refine hKK.out _ _ (fun _ => mkS.out _ X.out) ?_
 clear hKK KK
 replace GA := hx4 GA E
 replace GB := hx4 GB E
 rw [show (#[true, true, true, true, true, true, true, true, true, false, true, true, false, false] : Array Bool).setIfInBounds 9 true = #[true, true, true, true, true, true, true, true, true, true, true, true, false, false] from rfl]
 exact fr_2gagb hE   ga gb y1 X GA NGA GB NGB HD

set_option maxRecDepth 100000 in
theorem fr_1ga {u0 u1 u2 u3 u4 u5 u6 u8 u9 u10 u11 u16 u20 u21 u22 u23 u24 u25 u26 u27 u28 u29 u30 u31 u32 u33 u34 u35 u36 u37 u38 u39 u40 u41 u42 u43 u44 u45 u46 u47 u48 u49 u50 u51 u52 u53 u54 u55 u56 u57 u58 u59 u60 u61 u62 u63 u64 u65 u66 u67 u68 u69 u70 u71 u72 u73 u74 u75 u76 u77 u78 u79 u80 u81 u82 u83 u84 : Value} {a b r q : Rf} {row col : Int} {W1 : World} {N1 : Nat} {S : World → Prop} {Q : Exit → Act → World → Prop} (hE : frE u0 u1 u2 u3 u4 u5 u6 u9 u10 u11 u16 u21 u22 u23 u24 u25 u26 u27 u28 u29 u30 u31 u32 u33 u34 u35 u36 u37 u38 u39 u40 u41 u42 u43 u44 u45 u46 u47 u48 u49 u50 u51 u52 u53 u54 u55 u56 u57 u58 u59 u60 u61 u62 u63 u64 u65 u66 u67 u68 u69 u70 u71 u72 u73 u74 u75 u76 u77 u78 u79 u80 u81 u82 u83 u84 a b r q row col W1 N1 S Q)  (ga : Nat) (y0 : World) (X : Hid (Ext W1 y0)) (GA : Hid (Blk y0 ga (.int .i64 0) (.int .i64 0) (.bool false) (.bool false))) (NGA : Hid (N1 < ga)) :
   wpBar Try.prog .any frO Q (fun _ => false) S 4 #[true, true, true, true, true, true, true, true, true, false, true, false, false, false] { tmps := #[u0, u1, u2, u3, u4, u5, u6, (.pointer (some ⟨ga, 0, none⟩)), u8, u9, u10, u11, (.agg #[.int .i64 a.1, .int .i64 a.2.1, .bool a.2.2.1, .bool a.2.2.2]), (.int .i64 row), (.int .i64 col), (.agg #[.int .i64 r.1, .int .i64 r.2.1, .bool r.2.2.1, .bool r.2.2.2]), u16, (.agg #[.int .i64 b.1, .int .i64 b.2.1, .bool b.2.2.1, .bool b.2.2.2]), (.int .i64 row), (.int .i64 col), u20, u21, u22, u23, u24, u25, u26, u27, u28, u29, u30, u31, u32, u33, u34, u35, u36, u37, u38, u39, u40, u41, u42, u43, u44, u45, u46, u47, u48, u49, u50, u51, u52, u53, u54, u55, u56, u57, u58, u59, u60, u61, u62, u63, u64, u65, u66, u67, u68, u69, u70, u71, u72, u73, u74, u75, u76, u77, u78, u79, u80, u81, u82, u83, u84], defers := [] } y0 := by
 unfold frO
 have hE2 := hE
 obtain ⟨HNW, mkS, c1, c2, hdone⟩ := hE2
 refine bar_list (rs := [9, 11]) (by kernel_rfl) (by simp) ?_
 refine Bars.cons rfl (fun KK hKK => ?_) ?_
 · go_simp
   go_wp2_with (go_at_call 43; refine Calls.mono (c2.out _) ?_; rintro e y1 ⟨rfl, E⟩)
   replace X : Hid (Ext W1 y1) := X.out.trans E
   refine hKK.out _ _ (fun _ => mkS.out _ X.out) ?_
   clear hKK KK
   replace GA := hx4 GA E
   rw [show (#[true, true, true, true, true, true, true, true, true, false, true, false, false, false] : Array Bool).setIfInBounds 9 true = #[true, true, true, true, true, true, true, true, true, true, true, false, false, false] from rfl]
   exact fr_2ga hE   ga y1 X GA NGA
 · refine Bars.cons rfl (fun KK hKK => ?_) ?_
   · go_simp
     refine hKK.out _ _ (fun _ => mkS.out _ (X.out.alloc _)) ?_
     clear hKK KK
     obtain ⟨y1, hya⟩ : ∃ ya, World.alloc y0 (.cells #[.int .i64 0, .int .i64 0, .bool false, .bool false] 23) = ya := ⟨_, rfl⟩
     obtain ⟨gb, hga⟩ : ∃ g, y0.heap.size = g := ⟨_, rfl⟩
     have E : Ext y0 y1 := by rw [← hya]; exact (Ext.refl _).alloc _
     have GB : Hid (Blk y1 gb (.int .i64 0) (.int .i64 0) (.bool false) (.bool false)) := by rw [← hya, ← hga]; exact blk_top rfl (Ext.refl _)
     have NGB : Hid (N1 < gb) := by show _ < _; rw [← hga]; have h1 := HNW.out; have h2 := X.out.sz; omega
     have HD : Hid (ga ≠ gb) := by show _ ≠ _; have := GA.out.1; rw [hga] at this; omega
     rw [hya, hga]
     replace X : Hid (Ext W1 y1) := X.out.trans E
     replace GA := hx4 GA E
     clear E hya hga
     rw [show (#[true, true, true, true, true, true, true, true, true, false, true, false, false, false] : Array Bool).setIfInBounds 11 true = #[true, true, true, true, true, true, true, true, true, false, true, true, false, false] from rfl]
     exact fr_1gagb hE  ga gb y1 X GA NGA GB NGB HD
   · exact Bars.nil

set_option maxRecDepth 100000 in
theorem fr_1gb {u0 u1 u2 u3 u4 u5 u6 u7 u9 u10 u11 u16 u20 u21 u22 u23 u24 u25 u26 u27 u28 u29 u30 u31 u32 u33 u34 u35 u36 u37 u38 u39 u40 u41 u42 u43 u44 u45 u46 u47 u48 u49 u50 u51 u52 u53 u54 u55 u56 u57 u58 u59 u60 u61 u62 u63 u64 u65 u66 u67 u68 u69 u70 u71 u72 u73 u74 u75 u76 u77 u78 u79 u80 u81 u82 u83 u84 : Value} {a b r q : Rf} {row col : Int} {W1 : World} {N1 : Nat} {S : World → Prop} {Q : Exit → Act → World → Prop} (hE : frE u0 u1 u2 u3 u4 u5 u6 u9 u10 u11 u16 u21 u22 u23 u24 u25 u26 u27 u28 u29 u30 u31 u32 u33 u34 u35 u36 u37 u38 u39 u40 u41 u42 u43 u44 u45 u46 u47 u48 u49 u50 u51 u52 u53 u54 u55 u56 u57 u58 u59 u60 u61 u62 u63 u64 u65 u66 u67 u68 u69 u70 u71 u72 u73 u74 u75 u76 u77 u78 u79 u80 u81 u82 u83 u84 a b r q row col W1 N1 S Q)  (gb : Nat) (y0 : World) (X : Hid (Ext W1 y0)) (GB : Hid (Blk y0 gb (.int .i64 0) (.int .i64 0) (.bool false) (.bool false))) (NGB : Hid (N1 < gb)) :
   wpBar Try.prog .any frO Q (fun _ => false) S 4 #[true, true, true, true, true, true, true, true, true, false, false, true, false, false] { tmps := #[u0, u1, u2, u3, u4, u5, u6, u7, (.pointer (some ⟨gb, 0, none⟩)), u9, u10, u11, (.agg #[.int .i64 a.1, .int .i64 a.2.1, .bool a.2.2.1, .bool a.2.2.2]), (.int .i64 row), (.int .i64 col), (.agg #[.int .i64 r.1, .int .i64 r.2.1, .bool r.2.2.1, .bool r.2.2.2]), u16, (.agg #[.int .i64 b.1, .int .i64 b.2.1, .bool b.2.2.1, .bool b.2.2.2]), (.int .i64 row), (.int .i64 col), u20, u21, u22, u23, u24, u25, u26, u27, u28, u29, u30, u31, u32, u33, u34, u35, u36, u37, u38, u39, u40, u41, u42, u43, u44, u45, u46, u47, u48, u49, u50, u51, u52, u53, u54, u55, u56, u57, u58, u59, u60, u61, u62, u63, u64, u65, u66, u67, u68, u69, u70, u71, u72, u73, u74, u75, u76, u77, u78, u79, u80, u81, u82, u83, u84], defers := [] } y0 := by
 unfold frO
 have hE2 := hE
 obtain ⟨HNW, mkS, c1, c2, hdone⟩ := hE2
 refine bar_list (rs := [9, 10]) (by kernel_rfl) (by simp) ?_
 refine Bars.cons rfl (fun KK hKK => ?_) ?_
 · go_simp
   go_wp2_with (go_at_call 43; refine Calls.mono (c2.out _) ?_; rintro e y1 ⟨rfl, E⟩)
   replace X : Hid (Ext W1 y1) := X.out.trans E
   refine hKK.out _ _ (fun _ => mkS.out _ X.out) ?_
   clear hKK KK
   replace GB := hx4 GB E
   rw [show (#[true, true, true, true, true, true, true, true, true, false, false, true, false, false] : Array Bool).setIfInBounds 9 true = #[true, true, true, true, true, true, true, true, true, true, false, true, false, false] from rfl]
   exact fr_2gb hE   gb y1 X GB NGB
 · refine Bars.cons rfl (fun KK hKK => ?_) ?_
   · go_simp
     refine hKK.out _ _ (fun _ => mkS.out _ (X.out.alloc _)) ?_
     clear hKK KK
     obtain ⟨y1, hya⟩ : ∃ ya, World.alloc y0 (.cells #[.int .i64 0, .int .i64 0, .bool false, .bool false] 23) = ya := ⟨_, rfl⟩
     obtain ⟨ga, hga⟩ : ∃ g, y0.heap.size = g := ⟨_, rfl⟩
     have E : Ext y0 y1 := by rw [← hya]; exact (Ext.refl _).alloc _
     have GA : Hid (Blk y1 ga (.int .i64 0) (.int .i64 0) (.bool false) (.bool false)) := by rw [← hya, ← hga]; exact blk_top rfl (Ext.refl _)
     have NGA : Hid (N1 < ga) := by show _ < _; rw [← hga]; have h1 := HNW.out; have h2 := X.out.sz; omega
     have HD : Hid (ga ≠ gb) := by show _ ≠ _; have := GB.out.1; rw [hga] at this; omega
     rw [hya, hga]
     replace X : Hid (Ext W1 y1) := X.out.trans E
     replace GB := hx4 GB E
     clear E hya hga
     rw [show (#[true, true, true, true, true, true, true, true, true, false, false, true, false, false] : Array Bool).setIfInBounds 10 true = #[true, true, true, true, true, true, true, true, true, false, true, true, false, false] from rfl]
     exact fr_1gagb hE  ga gb y1 X GA NGA GB NGB HD
   · exact Bars.nil

set_option maxRecDepth 100000 in
theorem fr_1 {u0 u1 u2 u3 u4 u5 u6 u7 u8 u9 u10 u11 u16 u20 u21 u22 u23 u24 u25 u26 u27 u28 u29 u30 u31 u32 u33 u34 u35 u36 u37 u38 u39 u40 u41 u42 u43 u44 u45 u46 u47 u48 u49 u50 u51 u52 u53 u54 u55 u56 u57 u58 u59 u60 u61 u62 u63 u64 u65 u66 u67 u68 u69 u70 u71 u72 u73 u74 u75 u76 u77 u78 u79 u80 u81 u82 u83 u84 : Value} {a b r q : Rf} {row col : Int} {W1 : World} {N1 : Nat} {S : World → Prop} {Q : Exit → Act → World → Prop} (hE : frE u0 u1 u2 u3 u4 u5 u6 u9 u10 u11 u16 u21 u22 u23 u24 u25 u26 u27 u28 u29 u30 u31 u32 u33 u34 u35 u36 u37 u38 u39 u40 u41 u42 u43 u44 u45 u46 u47 u48 u49 u50 u51 u52 u53 u54 u55 u56 u57 u58 u59 u60 u61 u62 u63 u64 u65 u66 u67 u68 u69 u70 u71 u72 u73 u74 u75 u76 u77 u78 u79 u80 u81 u82 u83 u84 a b r q row col W1 N1 S Q)   (y0 : World) (X : Hid (Ext W1 y0)) :
   wpBar Try.prog .any frO Q (fun _ => false) S 5 #[true, true, true, true, true, true, true, true, true, false, false, false, false, false] { tmps := #[u0, u1, u2, u3, u4, u5, u6, u7, u8, u9, u10, u11, (.agg #[.int .i64 a.1, .int .i64 a.2.1, .bool a.2.2.1, .bool a.2.2.2]), (.int .i64 row), (.int .i64 col), (.agg #[.int .i64 r.1, .int .i64 r.2.1, .bool r.2.2.1, .bool r.2.2.2]), u16, (.agg #[.int .i64 b.1, .int .i64 b.2.1, .bool b.2.2.1, .bool b.2.2.2]), (.int .i64 row), (.int .i64 col), u20, u21, u22, u23, u24, u25, u26, u27, u28, u29, u30, u31, u32, u33, u34, u35, u36, u37, u38, u39, u40, u41, u42, u43, u44, u45, u46, u47, u48, u49, u50, u51, u52, u53, u54, u55, u56, u57, u58, u59, u60, u61, u62, u63, u64, u65, u66, u67, u68, u69, u70, u71, u72, u73, u74, u75, u76, u77, u78, u79, u80, u81, u82, u83, u84], defers := [] } y0 := by
 unfold frO
 have hE2 := hE
 obtain ⟨HNW, mkS, c1, c2, hdone⟩ := hE2
 refine bar_list (rs := [9, 10, 11]) (by kernel_rfl) (by simp) ?_
 refine Bars.cons rfl (fun KK hKK => ?_) ?_
 · go_simp
   go_wp2_with (go_at_call 43; refine Calls.mono (c2.out _) ?_; rintro e y1 ⟨rfl, E⟩)
   replace X : Hid (Ext W1 y1) := X.out.trans E
   refine hKK.out _ _ (fun _ => mkS.out _ X.out) ?_
   clear hKK KK
   rw [show (#[true, true, true, true, true, true, true, true, true, false, false, false, false, false] : Array Bool).setIfInBounds 9 true = #[true, true, true, true, true, true, true, true, true, true, false, false, false, false] from rfl]
   exact fr_2 hE    y1 X
 · refine Bars.cons rfl (fun KK hKK => ?_) ?_
   · go_simp
     refine hKK.out _ _ (fun _ => mkS.out _ (X.out.alloc _)) ?_
     clear hKK KK
     obtain ⟨y1, hya⟩ : ∃ ya, World.alloc y0 (.cells #[.int .i64 0, .int .i64 0, .bool false, .bool false] 23) = ya := ⟨_, rfl⟩
     obtain ⟨ga, hga⟩ : ∃ g, y0.heap.size = g := ⟨_, rfl⟩
     have E : Ext y0 y1 := by rw [← hya]; exact (Ext.refl _).alloc _
     have GA : Hid (Blk y1 ga (.int .i64 0) (.int .i64 0) (.bool false) (.bool false)) := by rw [← hya, ← hga]; exact blk_top rfl (Ext.refl _)
     have NGA : Hid (N1 < ga) := by show _ < _; rw [← hga]; have h1 := HNW.out; have h2 := X.out.sz; omega
     rw [hya, hga]
     replace X : Hid (Ext W1 y1) := X.out.trans E
     clear E hya hga
     rw [show (#[true, true, true, true, true, true, true, true, true, false, false, false, false, false] : Array Bool).setIfInBounds 10 true = #[true, true, true, true, true, true, true, true, true, false, true, false, false, false] from rfl]
     exact fr_1ga hE  ga y1 X GA NGA
   · refine Bars.cons rfl (fun KK hKK => ?_) ?_
     · go_simp
       refine hKK.out _ _ (fun _ => mkS.out _ (X.out.alloc _)) ?_
       clear hKK KK
       obtain ⟨y1, hya⟩ : ∃ ya, World.alloc y0 (.cells #[.int .i64 0, .int .i64 0, .bool false, .bool false] 23) = ya := ⟨_, rfl⟩
       obtain ⟨gb, hga⟩ : ∃ g, y0.heap.size = g := ⟨_, rfl⟩
       have E : Ext y0 y1 := by rw [← hya]; exact (Ext.refl _).alloc _
       have GB : Hid (Blk y1 gb (.int .i64 0) (.int .i64 0) (.bool false) (.bool false)) := by rw [← hya, ← hga]; exact blk_top rfl (Ext.refl _)
       have NGB : Hid (N1 < gb) := by show _ < _; rw [← hga]; have h1 := HNW.out; have h2 := X.out.sz; omega
       rw [hya, hga]
       replace X : Hid (Ext W1 y1) := X.out.trans E
       clear E hya hga
       rw [show (#[true, true, true, true, true, true, true, true, true, false, false, false, false, false] : Array Bool).setIfInBounds 11 true = #[true, true, true, true, true, true, true, true, true, false, false, true, false, false] from rfl]
       exact fr_1gb hE  gb y1 X GB NGB
     · exact Bars.nil

set_option maxRecDepth 100000 in
theorem fr_0gagb {u0 u1 u2 u3 u4 u5 u6 u9 u10 u11 u15 u16 u20 u21 u22 u23 u24 u25 u26 u27 u28 u29 u30 u31 u32 u33 u34 u35 u36 u37 u38 u39 u40 u41 u42 u43 u44 u45 u46 u47 u48 u49 u50 u51 u52 u53 u54 u55 u56 u57 u58 u59 u60 u61 u62 u63 u64 u65 u66 u67 u68 u69 u70 u71 u72 u73 u74 u75 u76 u77 u78 u79 u80 u81 u82 u83 u84 : Value} {a b r q : Rf} {row col : Int} {W1 : World} {N1 : Nat} {S : World → Prop} {Q : Exit → Act → World → Prop} (hE : frE u0 u1 u2 u3 u4 u5 u6 u9 u10 u11 u16 u21 u22 u23 u24 u25 u26 u27 u28 u29 u30 u31 u32 u33 u34 u35 u36 u37 u38 u39 u40 u41 u42 u43 u44 u45 u46 u47 u48 u49 u50 u51 u52 u53 u54 u55 u56 u57 u58 u59 u60 u61 u62 u63 u64 u65 u66 u67 u68 u69 u70 u71 u72 u73 u74 u75 u76 u77 u78 u79 u80 u81 u82 u83 u84 a b r q row col W1 N1 S Q)  (ga : Nat) (gb : Nat) (y0 : World) (X : Hid (Ext W1 y0)) (GA : Hid (Blk y0 ga (.int .i64 0) (.int .i64 0) (.bool false) (.bool false))) (NGA : Hid (N1 < ga)) (GB : Hid (Blk y0 gb (.int .i64 0) (.int .i64 0) (.bool false) (.bool false))) (NGB : Hid (N1 < gb)) (HD : Hid (ga ≠ gb)) :
   wpBar Try.prog .any frO Q (fun _ => false) S 4 #[true, true, true, true, false, true, true, true, true, false, true, true, false, false] { tmps := #[u0, u1, u2, u3, u4, u5, u6, (.pointer (some ⟨ga, 0, none⟩)), (.pointer (some ⟨gb, 0, none⟩)), u9, u10, u11, (.agg #[.int .i64 a.1, .int .i64 a.2.1, .bool a.2.2.1, .bool a.2.2.2]), (.int .i64 row), (.int .i64 col), u15, u16, (.agg #[.int .i64 b.1, .int .i64 b.2.1, .bool b.2.2.1, .bool b.2.2.2]), (.int .i64 row), (.int .i64 col), u20, u21, u22, u23, u24, u25, u26, u27, u28, u29, u30, u31, u32, u33, u34, u35, u36, u37, u38, u39, u40, u41, u42, u43, u44, u45, u46, u47, u48, u49, u50, u51, u52, u53, u54, u55, u56, u57, u58, u59, u60, u61, u62, u63, u64, u65, u66, u67, u68, u69, u70, u71, u72, u73, u74, u75, u76, u77, u78, u79, u80, u81, u82, u83, u84], defers := [] } y0 := by
 unfold frO
 have hE2 := hE
 obtain ⟨HNW, mkS, c1, c2, hdone⟩ := hE2
 refine bar_one (i := 4) (by kernel_rfl) rfl (fun KK hKK => ?_)
 go_simp
 go_wp2_with (go_at_call 43; refine Calls.mono (c1.out _) ?_; rintro e y1 ⟨rfl, E⟩)
 replace X : Hid (Ext W1 y1) := X.out.trans E
 refine hKK.out _ _ (fun _ => mkS.out _ X.out) ?_
 clear hKK KK
 replace GA := hx4 GA E
 replace GB := hx4 GB E
 rw [show (#[true, true, true, true, false, true, true, true, true, false, true, true, false, false] : Array Bool).setIfInBounds 4 true = #[true, true, true, true, true, true, true, true, true, false, true, true, false, false] from rfl]
 exact fr_1gagb hE  ga gb y1 X GA NGA GB NGB HD

set_option maxRecDepth 100000 in
theorem fr_0ga {u0 u1 u2 u3 u4 u5 u6 u8 u9 u10 u11 u15 u16 u20 u21 u22 u23 u24 u25 u26 u27 u28 u29 u30 u31 u32 u33 u34 u35 u36 u37 u38 u39 u40 u41 u42 u43 u44 u45 u46 u47 u48 u49 u50 u51 u52 u53 u54 u55 u56 u57 u58 u59 u60 u61 u62 u63 u64 u65 u66 u67 u68 u69 u70 u71 u72 u73 u74 u75 u76 u77 u78 u79 u80 u81 u82 u83 u84 : Value} {a b r q : Rf} {row col : Int} {W1 : World} {N1 : Nat} {S : World → Prop} {Q : Exit → Act → World → Prop} (hE : frE u0 u1 u2 u3 u4 u5 u6 u9 u10 u11 u16 u21 u22 u23 u24 u25 u26 u27 u28 u29 u30 u31 u32 u33 u34 u35 u36 u37 u38 u39 u40 u41 u42 u43 u44 u45 u46 u47 u48 u49 u50 u51 u52 u53 u54 u55 u56 u57 u58 u59 u60 u61 u62 u63 u64 u65 u66 u67 u68 u69 u70 u71 u72 u73 u74 u75 u76 u77 u78 u79 u80 u81 u82 u83 u84 a b r q row col W1 N1 S Q)  (ga : Nat) (y0 : World) (X : Hid (Ext W1 y0)) (GA : Hid (Blk y0 ga (.int .i64 0) (.int .i64 0) (.bool false) (.bool false))) (NGA : Hid (N1 < ga)) :
   wpBar Try.prog .any frO Q (fun _ => false) S 5 #[true, true, true, true, false, true, true, true, true, false, true, false, false, false] { tmps := #[u0, u1, u2, u3, u4, u5, u6, (.pointer (some ⟨ga, 0, none⟩)), u8, u9, u10, u11, (.agg #[.int .i64 a.1, .int .i64 a.2.1, .bool a.2.2.1, .bool a.2.2.2]), (.int .i64 row), (.int .i64 col), u15, u16, (.agg #[.int .i64 b.1, .int .i64 b.2.1, .bool b.2.2.1, .bool b.2.2.2]), (.int .i64 row), (.int .i64 col), u20, u21, u22, u23, u24, u25, u26, u27, u28, u29, u30, u31, u32, u33, u34, u35, u36, u37, u38, u39, u40, u41, u42, u43, u44, u45, u46, u47, u48, u49, u50, u51, u52, u53, u54, u55, u56, u57, u58, u59, u60, u61, u62, u63, u64, u65, u66, u67, u68, u69, u70, u71, u72, u73, u74, u75, u76, u77, u78, u79, u80, u81, u82, u83, u84], defers := [] } y0 := by
 unfold frO
 have hE2 := hE
 obtain ⟨HNW, mkS, c1, c2, hdone⟩ := hE2
 refine bar_list (rs := [4, 11]) (by kernel_rfl) (by simp) ?_
 refine Bars.cons rfl (fun KK hKK => ?_) ?_
 · go_simp
   go_wp2_with (go_at_call 43; refine Calls.mono (c1.out _) ?_; rintro e y1 ⟨rfl, E⟩)
   replace X : Hid (Ext W1 y1) := X.out.trans E
   refine hKK.out _ _ (fun _ => mkS.out _ X.out) ?_
   clear hKK KK
   replace GA := hx4 GA E
   rw [show (#[true, true, true, true, false, true, true, true, true, false, true, false, false, false] : Array Bool).setIfInBounds 4 true = #[true, true, true, true, true, true, true, true, true, false, true, false, false, false] from rfl]
   exact fr_1ga hE  ga y1 X GA NGA
 · refine Bars.cons rfl (fun KK hKK => ?_) ?_
   · go_simp
     refine hKK.out _ _ (fun _ => mkS.out _ (X.out.alloc _)) ?_
     clear hKK KK
     obtain ⟨y1, hya⟩ : ∃ ya, World.alloc y0 (.cells #[.int .i64 0, .int .i64 0, .bool false, .bool false] 23) = ya := ⟨_, rfl⟩
     obtain ⟨gb, hga⟩ : ∃ g, y0.heap.size = g := ⟨_, rfl⟩
     have E : Ext y0 y1 := by rw [← hya]; exact (Ext.refl _).alloc _
     have GB : Hid (Blk y1 gb (.int .i64 0) (.int .i64 0) (.bool false) (.bool false)) := by rw [← hya, ← hga]; exact blk_top rfl (Ext.refl _)
     have NGB : Hid (N1 < gb) := by show _ < _; rw [← hga]; have h1 := HNW.out; have h2 := X.out.sz; omega
     have HD : Hid (ga ≠ gb) := by show _ ≠ _; have := GA.out.1; rw [hga] at this; omega
     rw [hya, hga]
     replace X : Hid (Ext W1 y1) := X.out.trans E
     replace GA := hx4 GA E
     clear E hya hga
     rw [show (#[true, true, true, true, false, true, true, true, true, false, true, false, false, false] : Array Bool).setIfInBounds 11 true = #[true, true, true, true, false, true, true, true, true, false, true, true, false, false] from rfl]
     exact fr_0gagb hE  ga gb y1 X GA NGA GB NGB HD
   · exact Bars.nil

set_option maxRecDepth 100000 in
theorem fr_0gb {u0 u1 u2 u3 u4 u5 u6 u7 u9 u10 u11 u15 u16 u20 u21 u22 u23 u24 u25 u26 u27 u28 u29 u30 u31 u32 u33 u34 u35 u36 u37 u38 u39 u40 u41 u42 u43 u44 u45 u46 u47 u48 u49 u50 u51 u52 u53 u54 u55 u56 u57 u58 u59 u60 u61 u62 u63 u64 u65 u66 u67 u68 u69 u70 u71 u72 u73 u74 u75 u76 u77 u78 u79 u80 u81 u82 u83 u84 : Value} {a b r q : Rf} {row col : Int} {W1 : World} {N1 : Nat} {S : World → Prop} {Q : Exit → Act → World → Prop} (hE : frE u0 u1 u2 u3 u4 u5 u6 u9 u10 u11 u16 u21 u22 u23 u24 u25 u26 u27 u28 u29 u30 u31 u32 u33 u34 u35 u36 u37 u38 u39 u40 u41 u42 u43 u44 u45 u46 u47 u48 u49 u50 u51 u52 u53 u54 u55 u56 u57 u58 u59 u60 u61 u62 u63 u64 u65 u66 u67 u68 u69 u70 u71 u72 u73 u74 u75 u76 u77 u78 u79 u80 u81 u82 u83 u84 a b r q row col W1 N1 S Q)  (gb : Nat) (y0 : World) (X : Hid (Ext W1 y0)) (GB : Hid (Blk y0 gb (.int .i64 0) (.int .i64 0) (.bool false) (.bool false))) (NGB : Hid (N1 < gb)) :
   wpBar Try.prog .any frO Q (fun _ => false) S 5 #[true, true, true, true, false, true, true, true, true, false, false, true, false, false] { tmps := #[u0, u1, u2, u3, u4, u5, u6, u7, (.pointer (some ⟨gb, 0, none⟩)), u9, u10, u11, (.agg #[.int .i64 a.1, .int .i64 a.2.1, .bool a.2.2.1, .bool a.2.2.2]), (.int .i64 row), (.int .i64 col), u15, u16, (.agg #[.int .i64 b.1, .int .i64 b.2.1, .bool b.2.2.1, .bool b.2.2.2]), (.int .i64 row), (.int .i64 col), u20, u21, u22, u23, u24, u25, u26, u27, u28, u29, u30, u31, u32, u33, u34, u35, u36, u37, u38, u39, u40, u41, u42, u43, u44, u45, u46, u47, u48, u49, u50, u51, u52, u53, u54, u55, u56, u57, u58, u59, u60, u61, u62, u63, u64, u65, u66, u67, u68, u69, u70, u71, u72, u73, u74, u75, u76, u77, u78, u79, u80, u81, u82, u83, u84], defers := [] } y0 := by
 unfold frO
 have hE2 := hE
 obtain ⟨HNW, mkS, c1, c2, hdone⟩ := hE2
 refine bar_list (rs := [4, 10]) (by kernel_rfl) (by simp) ?_
 refine Bars.cons rfl (fun KK hKK => ?_) ?_
 · go_simp
   go_wp2_with (go_at_call 43; refine Calls.mono (c1.out _) ?_; rintro e y1 ⟨rfl, E⟩)
   replace X : Hid (Ext W1 y1) := X.out.trans E
   refine hKK.out _ _ (fun _ => mkS.out _ X.out) ?_
   clear hKK KK
   replace GB := hx4 GB E
   rw [show (#[true, true, true, true, false, true, true, true, true, false, false, true, false, false] : Array Bool).setIfInBounds 4 true = #[true, true, true, true, true, true, true, true, true, false, false, true, false, false] from rfl]
   exact fr_1gb hE  gb y1 X GB NGB
 · refine Bars.cons rfl (fun KK hKK => ?_) ?_
   · go_simp
     refine hKK.out _ _ (fun _ => mkS.out _ (X.out.alloc _)) ?_
     clear hKK KK
     obtain ⟨y1, hya⟩ : ∃ ya, World.alloc y0 (.cells #[.int .i64 0, .int .i64 0, .bool false, .bool false] 23) = ya := ⟨_, rfl⟩
     obtain ⟨ga, hga⟩ : ∃ g, y0.heap.size = g := ⟨_, rfl⟩
     have E : Ext y0 y1 := by rw [← hya]; exact (Ext.refl _).alloc _
     have GA : Hid (Blk y1 ga (.int .i64 0) (.int .i64 0) (.bool false) (.bool false)) := by rw [← hya, ← hga]; exact blk_top rfl (Ext.refl _)
     have NGA : Hid (N1 < ga) := by show _ < _; rw [← hga]; have h1 := HNW.out; have h2 := X.out.sz; omega
     have HD : Hid (ga ≠ gb) := by show _ ≠ _; have := GB.out.1; rw [hga] at this; omega
     rw [hya, hga]
     replace X : Hid (Ext W1 y1) := X.out.trans E
     replace GB := hx4 GB E
     clear E hya hga
     rw [show (#[true, true, true, true, false, true, true, true, true, false, false, true, false, false] : Array Bool).setIfInBounds 10 true = #[true, true, true, true, false, true, true, true, true, false, true, true, false, false] from rfl]
     exact fr_0gagb hE  ga gb y1 X GA NGA GB NGB HD
   · exact Bars.nil

set_option maxRecDepth 100000 in
theorem fr_0 {u0 u1 u2 u3 u4 u5 u6 u7 u8 u9 u10 u11 u15 u16 u20 u21 u22 u23 u24 u25 u26 u27 u28 u29 u30 u31 u32 u33 u34 u35 u36 u37 u38 u39 u40 u41 u42 u43 u44 u45 u46 u47 u48 u49 u50 u51 u52 u53 u54 u55 u56 u57 u58 u59 u60 u61 u62 u63 u64 u65 u66 u67 u68 u69 u70 u71 u72 u73 u74 u75 u76 u77 u78 u79 u80 u81 u82 u83 u84 : Value} {a b r q : Rf} {row col : Int} {W1 : World} {N1 : Nat} {S : World → Prop} {Q : Exit → Act → World → Prop} (hE : frE u0 u1 u2 u3 u4 u5 u6 u9 u10 u11 u16 u21 u22 u23 u24 u25 u26 u27 u28 u29 u30 u31 u32 u33 u34 u35 u36 u37 u38 u39 u40 u41 u42 u43 u44 u45 u46 u47 u48 u49 u50 u51 u52 u53 u54 u55 u56 u57 u58 u59 u60 u61 u62 u63 u64 u65 u66 u67 u68 u69 u70 u71 u72 u73 u74 u75 u76 u77 u78 u79 u80 u81 u82 u83 u84 a b r q row col W1 N1 S Q)   (y0 : World) (X : Hid (Ext W1 y0)) :
   wpBar Try.prog .any frO Q (fun _ => false) S 6 #[true, true, true, true, false, true, true, true, true, false, false, false, false, false] { tmps := #[u0, u1, u2, u3, u4, u5, u6, u7, u8, u9, u10, u11, (.agg #[.int .i64 a.1, .int .i64 a.2.1, .bool a.2.2.1, .bool a.2.2.2]), (.int .i64 row), (.int .i64 col), u15, u16, (.agg #[.int .i64 b.1, .int .i64 b.2.1, .bool b.2.2.1, .bool b.2.2.2]), (.int .i64 row), (.int .i64 col), u20, u21, u22, u23, u24, u25, u26, u27, u28, u29, u30, u31, u32, u33, u34, u35, u36, u37, u38, u39, u40, u41, u42, u43, u44, u45, u46, u47, u48, u49, u50, u51, u52, u53, u54, u55, u56, u57, u58, u59, u60, u61, u62, u63, u64, u65, u66, u67, u68, u69, u70, u71, u72, u73, u74, u75, u76, u77, u78, u79, u80, u81, u82, u83, u84], defers := [] } y0 := by
 unfold frO
 have hE2 := hE
 obtain ⟨HNW, mkS, c1, c2, hdone⟩ := hE2
 refine bar_list (rs := [4, 10, 11]) (by kernel_rfl) (by simp) ?_
 refine Bars.cons rfl (fun KK hKK => ?_) ?_
 · go_simp
   go_wp2_with (go_at_call 43; refine Calls.mono (c1.out _) ?_; rintro e y1 ⟨rfl, E⟩)
   replace X : Hid (Ext W1 y1) := X.out.trans E
   refine hKK.out _ _ (fun _ => mkS.out _ X.out) ?_
   clear hKK KK
   rw [show (#[true, true, true, true, false, true, true, true, true, false, false, false, false, false] : Array Bool).setIfInBounds 4 true = #[true, true, true, true, true, true, true, true, true, false, false, false, false, false] from rfl]
   exact fr_1 hE   y1 X
 · refine Bars.cons rfl (fun KK hKK => ?_) ?_
   · go_simp
     refine hKK.out _ _ (fun _ => mkS.out _ (X.out.alloc _)) ?_
     clear hKK KK
     obtain ⟨y1, hya⟩ : ∃ ya, World.alloc y0 (.cells #[.int .i64 0, .int .i64 0, .bool false, .bool false] 23) = ya := ⟨_, rfl⟩
     obtain ⟨ga, hga⟩ : ∃ g, y0.heap.size = g := ⟨_, rfl⟩
     have E : Ext y0 y1 := by rw [← hya]; exact (Ext.refl _).alloc _
     have GA : Hid (Blk y1 ga (.int .i64 0) (.int .i64 0) (.bool false) (.bool false)) := by rw [← hya, ← hga]; exact blk_top rfl (Ext.refl _)
     have NGA : Hid (N1 < ga) := by show _ < _; rw [← hga]; have h1 := HNW.out; have h2 := X.out.sz; omega
     rw [hya, hga]
     replace X : Hid (Ext W1 y1) := X.out.trans E
     clear E hya hga
     rw [show (#[true, true, true, true, false, true, true, true, true, false, false, false, false, false] : Array Bool).setIfInBounds 10 true = #[true, true, true, true, false, true, true, true, true, false, true, false, false, false] from rfl]
     exact fr_0ga hE  ga y1 X GA NGA
   · refine Bars.cons rfl (fun KK hKK => ?_) ?_
     · go_simp
       refine hKK.out _ _ (fun _ => mkS.out _ (X.out.alloc _)) ?_
       clear hKK KK
       obtain ⟨y1, hya⟩ : ∃ ya, World.alloc y0 (.cells #[.int .i64 0, .int .i64 0, .bool false, .bool false] 23) = ya := ⟨_, rfl⟩
       obtain ⟨gb, hga⟩ : ∃ g, y0.heap.size = g := ⟨_, rfl⟩
       have E : Ext y0 y1 := by rw [← hya]; exact (Ext.refl _).alloc _
       have GB : Hid (Blk y1 gb (.int .i64 0) (.int .i64 0) (.bool false) (.bool false)) := by rw [← hya, ← hga]; exact blk_top rfl (Ext.refl _)
       have NGB : Hid (N1 < gb) := by show _ < _; rw [← hga]; have h1 := HNW.out; have h2 := X.out.sz; omega
       rw [hya, hga]
       replace X : Hid (Ext W1 y1) := X.out.trans E
       clear E hya hga
       rw [show (#[true, true, true, true, false, true, true, true, true, false, false, false, false, false] : Array Bool).setIfInBounds 11 true = #[true, true, true, true, false, true, true, true, true, false, false, true, false, false] from rfl]
       exact fr_0gb hE  gb y1 X GB NGB
     · exact Bars.nil
end Go.Proofs.Ytcggiljlilbdfaa
