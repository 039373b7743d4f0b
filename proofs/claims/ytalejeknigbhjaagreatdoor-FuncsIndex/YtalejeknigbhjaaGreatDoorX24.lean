/-
 FuncsIndex: the region in which the area is made.
-/
import Derived.Test.YtalejeknigbhjaaGreatDoorX22
import Derived.Maps.AppendAt
namespace Go.Proofs.YtalejeknigbhjaaGreatDoor
open Go.RowKit
set_option maxHeartbeats 1000000

theorem hxN {w w' : World} {g : Nat} (h : Hid (g < w.heap.size ∧ w.cell? ⟨g, 0, none⟩ = none)) (e : Ext w w') : Hid (g < w'.heap.size ∧ w'.cell? ⟨g, 0, none⟩ = none) := ⟨Nat.lt_of_lt_of_le h.out.1 e.sz, (e.cell.1 g 0 h.out.1).trans h.out.2⟩
theorem hxO {w w' : World} {base : Nat} {T : TypeId} {k n : Nat} {v : Value} {xs : List Value} (h : Hid (w.ownsRow base T k v n xs)) (e : Ext w w') : Hid (w'.ownsRow base T k v n xs) := ownsRow_ext h.out e
theorem blk_grown {W W' : World} {b g : Nat} {x0 x1 x2 x3 : Value} (B : Blk W b x0 x1 x2 x3) (h : W.grownBy W' (some g)) (hne : g ≠ b) : Blk W' b x0 x1 x2 x3 := by
 obtain ⟨z, ⟨k0, k1, k2, k3⟩, f0, f1, f2, f3⟩ := B
 have e := h.block b z (fun q => hne (Option.some.inj q).symm)
 have c := fun o => World.cell?_of_block (w := W) (w' := W') (a := ⟨b, o, none⟩) e
 have f := fun o => World.frozen?_of_block (w := W) (w' := W') (a := ⟨b, o, none⟩) e
 exact ⟨Nat.lt_of_lt_of_le z h.size, ⟨(c 0).trans k0, (c 1).trans k1, (c 2).trans k2, (c 3).trans k3⟩, (f 0).trans f0, (f 1).trans f1, (f 2).trans f2, (f 3).trans f3⟩
theorem rd_put {W : World} {base ga m c2 : Nat} {p2 : Option Addr} {l : List Rw} {y0 y1 y2 : Value} (h : W.ownsRow base 25 4 (.slice p2 m c2) m (l.flatMap cV)) (hl : l.length = m) (G : Blk W ga (.bool false) y0 y1 y2) (u0 u1 u2 u3 : Value) :
   RdV ((((W.setCell ⟨ga, 0, none⟩ u0).setCell ⟨ga, 1, none⟩ u1).setCell ⟨ga, 2, none⟩ u2).setCell ⟨ga, 3, none⟩ u3).heap.size ((((W.setCell ⟨ga, 0, none⟩ u0).setCell ⟨ga, 1, none⟩ u1).setCell ⟨ga, 2, none⟩ u2).setCell ⟨ga, 3, none⟩ u3) (.slice p2 m c2) l := by
 subst hl
 obtain ⟨p, c, h1, h2, h3⟩ := own_rdV h
 refine ⟨p, c, h1, h2, ?_⟩
 rcases h3 with h3 | ⟨b, off, h3, h4, h5, h6⟩
 · exact .inl h3
 · cases h1
   by_cases hn : l = []
   · exact .inl hn
   · obtain ⟨r, t, rfl⟩ := List.exists_cons_of_ne_nil hn
     have ho : off = 0 := by
       rcases h.2 with ⟨h, _⟩ | ⟨g, cap, cur, h, _⟩
       · cases h
       · cases h; cases h3; rfl
     subst ho
     have hne : ga ≠ b := by
       intro e
       have k0 := (h6 0 r rfl).1
       have k1 := G.2.1.1
       rw [e] at k1
       simp at k0
       rw [k0] at k1
       cases k1
     refine .inr ⟨b, 0, h3, by simpa using h4, by simpa using h5, fun i r' hr => ?_⟩
     have k := fun o => show ((((W.setCell ⟨ga, 0, none⟩ u0).setCell ⟨ga, 1, none⟩ u1).setCell ⟨ga, 2, none⟩ u2).setCell ⟨ga, 3, none⟩ u3).cell? ⟨b, o, none⟩ = W.cell? ⟨b, o, none⟩ by
       rw [World.cell?_setCell_far _ _ _ _ hne, World.cell?_setCell_far _ _ _ _ hne, World.cell?_setCell_far _ _ _ _ hne, World.cell?_setCell_far _ _ _ _ hne]
     obtain ⟨q0, q1, q2, q3⟩ := h6 i r' hr
     exact ⟨(k _).trans q0, (k _).trans q1, (k _).trans q2, (k _).trans q3⟩
theorem ite_of {c : Prop} [Decidable c] {p q : Prop} (h : c) (hp : p) : if c then p else q := by rw [if_pos h]; exact hp
theorem own_wp {TS T : TypeId} {k bytes : Nat} (hT : Elt TS T k bytes) {o : Oper} {a : Act} {K : Act → World → Prop} {Q : Exit → Act → World → Prop} (W w : World) (s x : Operand) (v va : Value) (n m : Nat) (xs news : List Value) (base : Nat)
   (ho : o.op = .call { callee := .builtin .append, args := #[s, x], argTypes := #[TS, TS] })
   (hs : a.eval s = v) (hx : a.eval x = va) (hB : W.ownsRow base T k v n xs) (hR : RowC W va m k news) (h1c : ∀ u ∈ news, u.oneCell' = true) (hm : n + m ≤ maxLen) (hby : (n + m) * bytes ≤ 140737488355328) (hE : Ext w W) (hb : w.heap.size ≤ base) (hb2 : base ≤ W.heap.size)
   (h : ∀ v' W', W'.ownsRow base T k v' (n + m) (xs ++ news) → Ext w W' → W.grownBy W' v.ownBlock → K (a.put o.dst v') W') : o.wp Tryz.prog a W K Q := by
 obtain ⟨hl, p, c, rfl, hR⟩ := hR
 obtain ⟨i, z, hi, hz, h1, h2, h3⟩ := hT.i
 rcases hR with ⟨rfl, rfl⟩ | ⟨ad, rfl, hR⟩
 · have hn : news = [] := List.eq_nil_of_length_eq_zero (by simpa using hl)
   subst hn
   obtain ⟨p, cap, rfl, hc⟩ : ∃ p cap, v = .slice p n cap ∧ n ≤ cap := own_form hB
   refine Lib.wp_append_run W s x _ _ ho _ _ hs hx _ _ (run_append_noneG hT W o.type p n cap c hc) ?_
   exact h _ W (by simpa using hB) hE ⟨rfl, rfl, rfl, Nat.le_refl _, fun _ _ _ => rfl⟩
 · refine wp_append_own W s x TS ho base T i z k bytes hT.u hi hz h1 h2 h3 hT.k0 v n xs hs hB ad m c news hx hl hR h1c hm hby hb2 ?_
   intro v' W' h3 h4 _
   exact h v' W' h3 (ext_grownG hB hb hE h4) h4
def iaO : Array Oper := #[⟨some 24, .move (.tmp 0), 29, "law.go:85", #[], none⟩, ⟨some 25, .call { callee := .builtin .len, args := #[.tmp 24], argTypes := #[29] }, 3, "law.go:85", #[⟨0, .data⟩], none⟩, ⟨some 26, .move (.tmp 9), 3, "law.go:85", #[], none⟩, ⟨some 27, .binOp .quo 3 (.tmp 25) (.tmp 26) 3, 3, "law.go:85", #[⟨1, .data⟩, ⟨2, .data⟩], none⟩, ⟨some 28, .move (.tmp 9), 3, "law.go:85", #[], none⟩, ⟨some 29, .buildSlice 29 0 #[], 29, "law.go:85", #[], none⟩, ⟨some 30, .move (.tmp 0), 29, "law.go:85", #[], none⟩, ⟨some 31, .call { callee := .builtin .append, args := #[.tmp 29, .tmp 30], argTypes := #[29, 29] }, 29, "law.go:85", #[⟨5, .data⟩, ⟨6, .data⟩], none⟩, ⟨some 32, .build 31 #[(0, .const (.bool true)), (1, .tmp 27), (2, .tmp 28), (3, .tmp 31)], 31, "law.go:85", #[⟨3, .data⟩, ⟨4, .data⟩, ⟨7, .data⟩], none⟩, ⟨some 10, .alloc 31, 0, "law.go:85", #[], none⟩, ⟨none, .store 31 (.tmp 10) (.tmp 32), 0, "law.go:85", #[⟨9, .data⟩, ⟨8, .data⟩, ⟨7, .chain⟩, ⟨0, .phase⟩, ⟨1, .phase⟩, ⟨2, .phase⟩, ⟨3, .phase⟩, ⟨4, .phase⟩, ⟨5, .phase⟩, ⟨6, .phase⟩, ⟨7, .phase⟩, ⟨8, .phase⟩, ⟨9, .phase⟩], none⟩]

set_option maxRecDepth 100000 in
theorem ia_3ga {pp : Option Addr} {m cl : Nat} {cc rr : Int} {l : List Rw} {W1 : World} {S : World → Prop} {Q : Exit → Act → World → Prop} {u0 u1 u2 u3 u4 u5 u6 u7 u8 u9 u11 u12 u13 u14 u15 u16 u17 u18 u19 u20 u21 u22 u23 u33 u34 u35 u36 u37 u38 u39 u40 u41 u42 u43 u44 u45 u46 u47 u48 u49 u50 u51 u52 u53 u54 u55 u56 u57 u58 u59 u60 u61 u62 u63 u64 u65 u66 u67 u68 u69 u70 u71 u72 u73 u74 u75 u76 u77 u78 u79 u80 u81 u82 u83 u84 u85 u86 u87 u88 : Value} (mkS : Hid (∀ V, Ext W1 V → S V)) (HM : Hid (l.length = m ∧ m ≤ 1000)) (_HRW : Hid (∀ V, Ext W1 V → RowC V (.slice pp m cl) m 4 (l.flatMap cV))) (hdone : ∀ (g0 : Nat) (p2 : Option Addr) (c2 : Nat)  (ga : Nat) (y : World), Hid (Ext W1 y) → Hid (Blk y ga (.bool true) (.int .i64 rr) (.int .i64 cc) (.slice p2 m c2)) → Hid (W1.heap.size ≤ ga) → Hid (RdV y.heap.size y (.slice p2 m c2) l) → Q .normal { tmps := #[u0, u1, u2, u3, u4, u5, u6, u7, u8, u9, (.pointer (some ⟨ga, 0, none⟩)), u11, u12, u13, u14, u15, u16, u17, u18, u19, u20, u21, u22, u23, (.slice pp m cl), (.int .i64 (m : Int)), (.int .i64 cc), (.int .i64 rr), (.int .i64 cc), (.slice (some ⟨g0, 0, none⟩) 0 0), (.slice pp m cl), (.slice p2 m c2), (.agg #[.bool true, .int .i64 rr, .int .i64 cc, .slice p2 m c2]), u33, u34, u35, u36, u37, u38, u39, u40, u41, u42, u43, u44, u45, u46, u47, u48, u49, u50, u51, u52, u53, u54, u55, u56, u57, u58, u59, u60, u61, u62, u63, u64, u65, u66, u67, u68, u69, u70, u71, u72, u73, u74, u75, u76, u77, u78, u79, u80, u81, u82, u83, u84, u85, u86, u87, u88], defers := [] } y) (g0 : Nat) (p2 : Option Addr) (c2 : Nat)  (ga : Nat) (y0 : World) (X : Hid (Ext W1 y0)) (FR : Hid (y0.ownsRow W1.heap.size 25 4 (.slice p2 m c2) m (l.flatMap cV))) (Gga : Hid (Blk y0 ga (.bool false) (.int .i64 0) (.int .i64 0) (.slice none 0 0))) (Nga : Hid (W1.heap.size ≤ ga)) :
   wpBar Tryz.prog .any iaO Q (fun _ => false) S 1 #[true, true, true, true, true, true, true, true, true, true, false] { tmps := #[u0, u1, u2, u3, u4, u5, u6, u7, u8, u9, (.pointer (some ⟨ga, 0, none⟩)), u11, u12, u13, u14, u15, u16, u17, u18, u19, u20, u21, u22, u23, (.slice pp m cl), (.int .i64 (m : Int)), (.int .i64 cc), (.int .i64 rr), (.int .i64 cc), (.slice (some ⟨g0, 0, none⟩) 0 0), (.slice pp m cl), (.slice p2 m c2), (.agg #[.bool true, .int .i64 rr, .int .i64 cc, .slice p2 m c2]), u33, u34, u35, u36, u37, u38, u39, u40, u41, u42, u43, u44, u45, u46, u47, u48, u49, u50, u51, u52, u53, u54, u55, u56, u57, u58, u59, u60, u61, u62, u63, u64, u65, u66, u67, u68, u69, u70, u71, u72, u73, u74, u75, u76, u77, u78, u79, u80, u81, u82, u83, u84, u85, u86, u87, u88], defers := [] } y0 := by
 unfold iaO
 obtain ⟨za, ⟨a0, a1, a2, a3⟩, af0, af1, af2, af3⟩ := Gga.out
 refine bar_one (i := 10) (by kernel_rfl) rfl (fun KK hKK => ?_)
 go_simp
 have EP : Hid (Ext W1 ((((y0.setCell ⟨ga, 0, none⟩ (.bool true)).setCell ⟨ga, 1, none⟩ (.int .i64 rr)).setCell ⟨ga, 2, none⟩ (.int .i64 cc)).setCell ⟨ga, 3, none⟩ (.slice p2 m c2))) := (((X.out.setCell (p := ⟨ga, 0, none⟩) Nga.out _).setCell (p := ⟨ga, 1, none⟩) Nga.out _).setCell (p := ⟨ga, 2, none⟩) Nga.out _).setCell (p := ⟨ga, 3, none⟩) Nga.out _
 refine hKK.out _ ((((y0.setCell ⟨ga, 0, none⟩ (.bool true)).setCell ⟨ga, 1, none⟩ (.int .i64 rr)).setCell ⟨ga, 2, none⟩ (.int .i64 cc)).setCell ⟨ga, 3, none⟩ (.slice p2 m c2)) (fun _ => mkS.out _ EP.out) ?_
 clear hKK KK za a0 a1 a2 a3 af0 af1 af2 af3
 have FZ : Hid (RdV ((((y0.setCell ⟨ga, 0, none⟩ (.bool true)).setCell ⟨ga, 1, none⟩ (.int .i64 rr)).setCell ⟨ga, 2, none⟩ (.int .i64 cc)).setCell ⟨ga, 3, none⟩ (.slice p2 m c2)).heap.size ((((y0.setCell ⟨ga, 0, none⟩ (.bool true)).setCell ⟨ga, 1, none⟩ (.int .i64 rr)).setCell ⟨ga, 2, none⟩ (.int .i64 cc)).setCell ⟨ga, 3, none⟩ (.slice p2 m c2)) (.slice p2 m c2) l) := rd_put FR.out HM.out.1 Gga.out _ _ _ _
 replace Gga : Hid (Blk ((((y0.setCell ⟨ga, 0, none⟩ (.bool true)).setCell ⟨ga, 1, none⟩ (.int .i64 rr)).setCell ⟨ga, 2, none⟩ (.int .i64 cc)).setCell ⟨ga, 3, none⟩ (.slice p2 m c2)) ga (.bool true) (.int .i64 rr) (.int .i64 cc) (.slice p2 m c2)) := Gga.out.set _ _ _ _
 replace X := EP
 clear EP
 generalize (((y0.setCell ⟨ga, 0, none⟩ (.bool true)).setCell ⟨ga, 1, none⟩ (.int .i64 rr)).setCell ⟨ga, 2, none⟩ (.int .i64 cc)).setCell ⟨ga, 3, none⟩ (.slice p2 m c2) = w2 at *
 rw [show (#[true, true, true, true, true, true, true, true, true, true, false] : Array Bool).setIfInBounds 10 true = #[true, true, true, true, true, true, true, true, true, true, true] from rfl]
 refine bar_done (by kernel_rfl) ?_ _
 exact hdone g0 p2 c2  ga w2 X Gga Nga FZ

set_option maxRecDepth 100000 in
theorem ia_3 {pp : Option Addr} {m cl : Nat} {cc rr : Int} {l : List Rw} {W1 : World} {S : World → Prop} {Q : Exit → Act → World → Prop} {u0 u1 u2 u3 u4 u5 u6 u7 u8 u9 u10 u11 u12 u13 u14 u15 u16 u17 u18 u19 u20 u21 u22 u23 u33 u34 u35 u36 u37 u38 u39 u40 u41 u42 u43 u44 u45 u46 u47 u48 u49 u50 u51 u52 u53 u54 u55 u56 u57 u58 u59 u60 u61 u62 u63 u64 u65 u66 u67 u68 u69 u70 u71 u72 u73 u74 u75 u76 u77 u78 u79 u80 u81 u82 u83 u84 u85 u86 u87 u88 : Value} (mkS : Hid (∀ V, Ext W1 V → S V)) (HM : Hid (l.length = m ∧ m ≤ 1000)) (HRW : Hid (∀ V, Ext W1 V → RowC V (.slice pp m cl) m 4 (l.flatMap cV))) (hdone : ∀ (g0 : Nat) (p2 : Option Addr) (c2 : Nat)  (ga : Nat) (y : World), Hid (Ext W1 y) → Hid (Blk y ga (.bool true) (.int .i64 rr) (.int .i64 cc) (.slice p2 m c2)) → Hid (W1.heap.size ≤ ga) → Hid (RdV y.heap.size y (.slice p2 m c2) l) → Q .normal { tmps := #[u0, u1, u2, u3, u4, u5, u6, u7, u8, u9, (.pointer (some ⟨ga, 0, none⟩)), u11, u12, u13, u14, u15, u16, u17, u18, u19, u20, u21, u22, u23, (.slice pp m cl), (.int .i64 (m : Int)), (.int .i64 cc), (.int .i64 rr), (.int .i64 cc), (.slice (some ⟨g0, 0, none⟩) 0 0), (.slice pp m cl), (.slice p2 m c2), (.agg #[.bool true, .int .i64 rr, .int .i64 cc, .slice p2 m c2]), u33, u34, u35, u36, u37, u38, u39, u40, u41, u42, u43, u44, u45, u46, u47, u48, u49, u50, u51, u52, u53, u54, u55, u56, u57, u58, u59, u60, u61, u62, u63, u64, u65, u66, u67, u68, u69, u70, u71, u72, u73, u74, u75, u76, u77, u78, u79, u80, u81, u82, u83, u84, u85, u86, u87, u88], defers := [] } y) (g0 : Nat) (p2 : Option Addr) (c2 : Nat)   (y0 : World) (X : Hid (Ext W1 y0)) (FR : Hid (y0.ownsRow W1.heap.size 25 4 (.slice p2 m c2) m (l.flatMap cV))) :
   wpBar Tryz.prog .any iaO Q (fun _ => false) S 2 #[true, true, true, true, true, true, true, true, true, false, false] { tmps := #[u0, u1, u2, u3, u4, u5, u6, u7, u8, u9, u10, u11, u12, u13, u14, u15, u16, u17, u18, u19, u20, u21, u22, u23, (.slice pp m cl), (.int .i64 (m : Int)), (.int .i64 cc), (.int .i64 rr), (.int .i64 cc), (.slice (some ⟨g0, 0, none⟩) 0 0), (.slice pp m cl), (.slice p2 m c2), (.agg #[.bool true, .int .i64 rr, .int .i64 cc, .slice p2 m c2]), u33, u34, u35, u36, u37, u38, u39, u40, u41, u42, u43, u44, u45, u46, u47, u48, u49, u50, u51, u52, u53, u54, u55, u56, u57, u58, u59, u60, u61, u62, u63, u64, u65, u66, u67, u68, u69, u70, u71, u72, u73, u74, u75, u76, u77, u78, u79, u80, u81, u82, u83, u84, u85, u86, u87, u88], defers := [] } y0 := by
 unfold iaO
 refine bar_one (i := 9) (by kernel_rfl) rfl (fun KK hKK => ?_)
 go_simp
 refine hKK.out _ _ (fun _ => mkS.out _ (X.out.alloc _)) ?_
 clear hKK KK
 obtain ⟨y1, hya⟩ : ∃ ya, World.alloc y0 (.cells #[.bool false, .int .i64 0, .int .i64 0, .slice none 0 0] 31) = ya := ⟨_, rfl⟩
 obtain ⟨ga, hga⟩ : ∃ g, y0.heap.size = g := ⟨_, rfl⟩
 have E : Ext y0 y1 := by rw [← hya]; exact (Ext.refl _).alloc _
 have Gga : Hid (Blk y1 ga (.bool false) (.int .i64 0) (.int .i64 0) (.slice none 0 0)) := by rw [← hya, ← hga]; exact blk_top rfl (Ext.refl _)
 have Nga : Hid (W1.heap.size ≤ ga) := by show _ ≤ _; rw [← hga]; exact X.out.sz
 rw [hya, hga]
 replace X : Hid (Ext W1 y1) := X.out.trans E
 replace FR := hxO FR E
 clear E hya hga
 rw [show (#[true, true, true, true, true, true, true, true, true, false, false] : Array Bool).setIfInBounds 9 true = #[true, true, true, true, true, true, true, true, true, true, false] from rfl]
 exact ia_3ga mkS HM HRW hdone g0 p2 c2  ga y1 X FR Gga Nga

set_option maxRecDepth 100000 in
theorem ia_2ga {pp : Option Addr} {m cl : Nat} {cc rr : Int} {l : List Rw} {W1 : World} {S : World → Prop} {Q : Exit → Act → World → Prop} {u0 u1 u2 u3 u4 u5 u6 u7 u8 u9 u11 u12 u13 u14 u15 u16 u17 u18 u19 u20 u21 u22 u23 u32 u33 u34 u35 u36 u37 u38 u39 u40 u41 u42 u43 u44 u45 u46 u47 u48 u49 u50 u51 u52 u53 u54 u55 u56 u57 u58 u59 u60 u61 u62 u63 u64 u65 u66 u67 u68 u69 u70 u71 u72 u73 u74 u75 u76 u77 u78 u79 u80 u81 u82 u83 u84 u85 u86 u87 u88 : Value} (mkS : Hid (∀ V, Ext W1 V → S V)) (HM : Hid (l.length = m ∧ m ≤ 1000)) (HRW : Hid (∀ V, Ext W1 V → RowC V (.slice pp m cl) m 4 (l.flatMap cV))) (hdone : ∀ (g0 : Nat) (p2 : Option Addr) (c2 : Nat)  (ga : Nat) (y : World), Hid (Ext W1 y) → Hid (Blk y ga (.bool true) (.int .i64 rr) (.int .i64 cc) (.slice p2 m c2)) → Hid (W1.heap.size ≤ ga) → Hid (RdV y.heap.size y (.slice p2 m c2) l) → Q .normal { tmps := #[u0, u1, u2, u3, u4, u5, u6, u7, u8, u9, (.pointer (some ⟨ga, 0, none⟩)), u11, u12, u13, u14, u15, u16, u17, u18, u19, u20, u21, u22, u23, (.slice pp m cl), (.int .i64 (m : Int)), (.int .i64 cc), (.int .i64 rr), (.int .i64 cc), (.slice (some ⟨g0, 0, none⟩) 0 0), (.slice pp m cl), (.slice p2 m c2), (.agg #[.bool true, .int .i64 rr, .int .i64 cc, .slice p2 m c2]), u33, u34, u35, u36, u37, u38, u39, u40, u41, u42, u43, u44, u45, u46, u47, u48, u49, u50, u51, u52, u53, u54, u55, u56, u57, u58, u59, u60, u61, u62, u63, u64, u65, u66, u67, u68, u69, u70, u71, u72, u73, u74, u75, u76, u77, u78, u79, u80, u81, u82, u83, u84, u85, u86, u87, u88], defers := [] } y) (g0 : Nat) (p2 : Option Addr) (c2 : Nat) (ga : Nat) (y0 : World) (X : Hid (Ext W1 y0)) (FR : Hid (y0.ownsRow W1.heap.size 25 4 (.slice p2 m c2) m (l.flatMap cV))) (Gga : Hid (Blk y0 ga (.bool false) (.int .i64 0) (.int .i64 0) (.slice none 0 0))) (Nga : Hid (W1.heap.size ≤ ga)) :
   wpBar Tryz.prog .any iaO Q (fun _ => false) S 2 #[true, true, true, true, true, true, true, true, false, true, false] { tmps := #[u0, u1, u2, u3, u4, u5, u6, u7, u8, u9, (.pointer (some ⟨ga, 0, none⟩)), u11, u12, u13, u14, u15, u16, u17, u18, u19, u20, u21, u22, u23, (.slice pp m cl), (.int .i64 (m : Int)), (.int .i64 cc), (.int .i64 rr), (.int .i64 cc), (.slice (some ⟨g0, 0, none⟩) 0 0), (.slice pp m cl), (.slice p2 m c2), u32, u33, u34, u35, u36, u37, u38, u39, u40, u41, u42, u43, u44, u45, u46, u47, u48, u49, u50, u51, u52, u53, u54, u55, u56, u57, u58, u59, u60, u61, u62, u63, u64, u65, u66, u67, u68, u69, u70, u71, u72, u73, u74, u75, u76, u77, u78, u79, u80, u81, u82, u83, u84, u85, u86, u87, u88], defers := [] } y0 := by
 unfold iaO
 refine bar_one (i := 8) (by kernel_rfl) rfl (fun KK hKK => ?_)
 go_simp
 refine hKK.out _ _ (fun _ => mkS.out _ X.out) ?_
 clear hKK KK
 rw [show (#[true, true, true, true, true, true, true, true, false, true, false] : Array Bool).setIfInBounds 8 true = #[true, true, true, true, true, true, true, true, true, true, false] from rfl]
 exact ia_3ga mkS HM HRW hdone g0 p2 c2  ga y0 X FR Gga Nga

set_option maxRecDepth 100000 in
theorem ia_2 {pp : Option Addr} {m cl : Nat} {cc rr : Int} {l : List Rw} {W1 : World} {S : World → Prop} {Q : Exit → Act → World → Prop} {u0 u1 u2 u3 u4 u5 u6 u7 u8 u9 u10 u11 u12 u13 u14 u15 u16 u17 u18 u19 u20 u21 u22 u23 u32 u33 u34 u35 u36 u37 u38 u39 u40 u41 u42 u43 u44 u45 u46 u47 u48 u49 u50 u51 u52 u53 u54 u55 u56 u57 u58 u59 u60 u61 u62 u63 u64 u65 u66 u67 u68 u69 u70 u71 u72 u73 u74 u75 u76 u77 u78 u79 u80 u81 u82 u83 u84 u85 u86 u87 u88 : Value} (mkS : Hid (∀ V, Ext W1 V → S V)) (HM : Hid (l.length = m ∧ m ≤ 1000)) (HRW : Hid (∀ V, Ext W1 V → RowC V (.slice pp m cl) m 4 (l.flatMap cV))) (hdone : ∀ (g0 : Nat) (p2 : Option Addr) (c2 : Nat)  (ga : Nat) (y : World), Hid (Ext W1 y) → Hid (Blk y ga (.bool true) (.int .i64 rr) (.int .i64 cc) (.slice p2 m c2)) → Hid (W1.heap.size ≤ ga) → Hid (RdV y.heap.size y (.slice p2 m c2) l) → Q .normal { tmps := #[u0, u1, u2, u3, u4, u5, u6, u7, u8, u9, (.pointer (some ⟨ga, 0, none⟩)), u11, u12, u13, u14, u15, u16, u17, u18, u19, u20, u21, u22, u23, (.slice pp m cl), (.int .i64 (m : Int)), (.int .i64 cc), (.int .i64 rr), (.int .i64 cc), (.slice (some ⟨g0, 0, none⟩) 0 0), (.slice pp m cl), (.slice p2 m c2), (.agg #[.bool true, .int .i64 rr, .int .i64 cc, .slice p2 m c2]), u33, u34, u35, u36, u37, u38, u39, u40, u41, u42, u43, u44, u45, u46, u47, u48, u49, u50, u51, u52, u53, u54, u55, u56, u57, u58, u59, u60, u61, u62, u63, u64, u65, u66, u67, u68, u69, u70, u71, u72, u73, u74, u75, u76, u77, u78, u79, u80, u81, u82, u83, u84, u85, u86, u87, u88], defers := [] } y) (g0 : Nat) (p2 : Option Addr) (c2 : Nat)  (y0 : World) (X : Hid (Ext W1 y0)) (FR : Hid (y0.ownsRow W1.heap.size 25 4 (.slice p2 m c2) m (l.flatMap cV))) :
   wpBar Tryz.prog .any iaO Q (fun _ => false) S 3 #[true, true, true, true, true, true, true, true, false, false, false] { tmps := #[u0, u1, u2, u3, u4, u5, u6, u7, u8, u9, u10, u11, u12, u13, u14, u15, u16, u17, u18, u19, u20, u21, u22, u23, (.slice pp m cl), (.int .i64 (m : Int)), (.int .i64 cc), (.int .i64 rr), (.int .i64 cc), (.slice (some ⟨g0, 0, none⟩) 0 0), (.slice pp m cl), (.slice p2 m c2), u32, u33, u34, u35, u36, u37, u38, u39, u40, u41, u42, u43, u44, u45, u46, u47, u48, u49, u50, u51, u52, u53, u54, u55, u56, u57, u58, u59, u60, u61, u62, u63, u64, u65, u66, u67, u68, u69, u70, u71, u72, u73, u74, u75, u76, u77, u78, u79, u80, u81, u82, u83, u84, u85, u86, u87, u88], defers := [] } y0 := by
 unfold iaO
 refine bar_list (rs := [8, 9]) (by kernel_rfl) (by simp) ?_
 refine Bars.cons rfl (fun KK hKK => ?_) ?_
 · go_simp
   refine hKK.out _ _ (fun _ => mkS.out _ X.out) ?_
   clear hKK KK
   rw [show (#[true, true, true, true, true, true, true, true, false, false, false] : Array Bool).setIfInBounds 8 true = #[true, true, true, true, true, true, true, true, true, false, false] from rfl]
   exact ia_3 mkS HM HRW hdone g0 p2 c2   y0 X FR
 · refine Bars.cons rfl (fun KK hKK => ?_) ?_
   · go_simp
     refine hKK.out _ _ (fun _ => mkS.out _ (X.out.alloc _)) ?_
     clear hKK KK
     obtain ⟨y1, hya⟩ : ∃ ya, World.alloc y0 (.cells #[.bool false, .int .i64 0, .int .i64 0, .slice none 0 0] 31) = ya := ⟨_, rfl⟩
     obtain ⟨ga, hga⟩ : ∃ g, y0.heap.size = g := ⟨_, rfl⟩
     have E : Ext y0 y1 := by rw [← hya]; exact (Ext.refl _).alloc _
     have Gga : Hid (Blk y1 ga (.bool false) (.int .i64 0) (.int .i64 0) (.slice none 0 0)) := by rw [← hya, ← hga]; exact blk_top rfl (Ext.refl _)
     have Nga : Hid (W1.heap.size ≤ ga) := by show _ ≤ _; rw [← hga]; exact X.out.sz
     rw [hya, hga]
     replace X : Hid (Ext W1 y1) := X.out.trans E
     replace FR := hxO FR E
     clear E hya hga
     rw [show (#[true, true, true, true, true, true, true, true, false, false, false] : Array Bool).setIfInBounds 9 true = #[true, true, true, true, true, true, true, true, false, true, false] from rfl]
     exact ia_2ga mkS HM HRW hdone g0 p2 c2 ga y1 X FR Gga Nga
   · exact Bars.nil

set_option maxRecDepth 100000 in
theorem ia_1ga {pp : Option Addr} {m cl : Nat} {cc rr : Int} {l : List Rw} {W1 : World} {S : World → Prop} {Q : Exit → Act → World → Prop} {u0 u1 u2 u3 u4 u5 u6 u7 u8 u9 u11 u12 u13 u14 u15 u16 u17 u18 u19 u20 u21 u22 u23 u31 u32 u33 u34 u35 u36 u37 u38 u39 u40 u41 u42 u43 u44 u45 u46 u47 u48 u49 u50 u51 u52 u53 u54 u55 u56 u57 u58 u59 u60 u61 u62 u63 u64 u65 u66 u67 u68 u69 u70 u71 u72 u73 u74 u75 u76 u77 u78 u79 u80 u81 u82 u83 u84 u85 u86 u87 u88 : Value} (mkS : Hid (∀ V, Ext W1 V → S V)) (HM : Hid (l.length = m ∧ m ≤ 1000)) (HRW : Hid (∀ V, Ext W1 V → RowC V (.slice pp m cl) m 4 (l.flatMap cV))) (hdone : ∀ (g0 : Nat) (p2 : Option Addr) (c2 : Nat)  (ga : Nat) (y : World), Hid (Ext W1 y) → Hid (Blk y ga (.bool true) (.int .i64 rr) (.int .i64 cc) (.slice p2 m c2)) → Hid (W1.heap.size ≤ ga) → Hid (RdV y.heap.size y (.slice p2 m c2) l) → Q .normal { tmps := #[u0, u1, u2, u3, u4, u5, u6, u7, u8, u9, (.pointer (some ⟨ga, 0, none⟩)), u11, u12, u13, u14, u15, u16, u17, u18, u19, u20, u21, u22, u23, (.slice pp m cl), (.int .i64 (m : Int)), (.int .i64 cc), (.int .i64 rr), (.int .i64 cc), (.slice (some ⟨g0, 0, none⟩) 0 0), (.slice pp m cl), (.slice p2 m c2), (.agg #[.bool true, .int .i64 rr, .int .i64 cc, .slice p2 m c2]), u33, u34, u35, u36, u37, u38, u39, u40, u41, u42, u43, u44, u45, u46, u47, u48, u49, u50, u51, u52, u53, u54, u55, u56, u57, u58, u59, u60, u61, u62, u63, u64, u65, u66, u67, u68, u69, u70, u71, u72, u73, u74, u75, u76, u77, u78, u79, u80, u81, u82, u83, u84, u85, u86, u87, u88], defers := [] } y) (g0 : Nat) (ga : Nat) (y0 : World) (X : Hid (Ext W1 y0)) (FO : Hid (y0.ownsRow W1.heap.size 25 4 (.slice (some ⟨g0, 0, none⟩) 0 0) 0 [])) (FN : Hid (g0 < y0.heap.size ∧ y0.cell? ⟨g0, 0, none⟩ = none)) (Gga : Hid (Blk y0 ga (.bool false) (.int .i64 0) (.int .i64 0) (.slice none 0 0))) (Nga : Hid (W1.heap.size ≤ ga)) :
   wpBar Tryz.prog .any iaO Q (fun _ => false) S 3 #[true, true, true, true, true, true, true, false, false, true, false] { tmps := #[u0, u1, u2, u3, u4, u5, u6, u7, u8, u9, (.pointer (some ⟨ga, 0, none⟩)), u11, u12, u13, u14, u15, u16, u17, u18, u19, u20, u21, u22, u23, (.slice pp m cl), (.int .i64 (m : Int)), (.int .i64 cc), (.int .i64 rr), (.int .i64 cc), (.slice (some ⟨g0, 0, none⟩) 0 0), (.slice pp m cl), u31, u32, u33, u34, u35, u36, u37, u38, u39, u40, u41, u42, u43, u44, u45, u46, u47, u48, u49, u50, u51, u52, u53, u54, u55, u56, u57, u58, u59, u60, u61, u62, u63, u64, u65, u66, u67, u68, u69, u70, u71, u72, u73, u74, u75, u76, u77, u78, u79, u80, u81, u82, u83, u84, u85, u86, u87, u88], defers := [] } y0 := by
 unfold iaO
 refine bar_one (i := 7) (by kernel_rfl) rfl (fun KK hKK => ?_)
 refine ite_of (by kernel_rfl) ?_
 refine own_wp eltV y0 W1 _ _ _ _ 0 m [] (l.flatMap cV) W1.heap.size rfl (by rfl) (by rfl) FO.out (HRW.out _ X.out) (cV_one l) (by unfold maxLen; have := HM.out.2; omega) (by have := HM.out.2; omega) X.out (Nat.le_refl _) X.out.size ?_
 intro v' y1 k1 k2 k3
 rw [Nat.zero_add, List.nil_append] at k1
 obtain ⟨p2, c2, rfl, _⟩ := own_form k1
 have FR : Hid (y1.ownsRow W1.heap.size 25 4 (.slice p2 m c2) m (l.flatMap cV)) := k1
 have X1 : Hid (Ext W1 y1) := k2
 have K1 : Hid (y0.grownBy y1 (some g0)) := k3
 have K2 : Hid (True) := trivial
 clear k1 k2 k3
 refine hKK.out _ _ (fun _ => mkS.out _ X1.out) ?_
 clear hKK KK
 replace Gga : Hid (Blk y1 ga (.bool false) (.int .i64 0) (.int .i64 0) (.slice none 0 0)) := blk_grown Gga.out K1.out (fun e => by have h1 := FN.out.2; have h2 := Gga.out.2.1.1; rw [e] at h1; rw [h1] at h2; cases h2)
 replace X := X1
 clear X1 K1 K2
 rw [show (#[true, true, true, true, true, true, true, false, false, true, false] : Array Bool).setIfInBounds 7 true = #[true, true, true, true, true, true, true, true, false, true, false] from rfl]
 exact ia_2ga mkS HM HRW hdone g0 p2 c2 ga y1 X FR Gga Nga

set_option maxRecDepth 100000 in
theorem ia_1 {pp : Option Addr} {m cl : Nat} {cc rr : Int} {l : List Rw} {W1 : World} {S : World → Prop} {Q : Exit → Act → World → Prop} {u0 u1 u2 u3 u4 u5 u6 u7 u8 u9 u10 u11 u12 u13 u14 u15 u16 u17 u18 u19 u20 u21 u22 u23 u31 u32 u33 u34 u35 u36 u37 u38 u39 u40 u41 u42 u43 u44 u45 u46 u47 u48 u49 u50 u51 u52 u53 u54 u55 u56 u57 u58 u59 u60 u61 u62 u63 u64 u65 u66 u67 u68 u69 u70 u71 u72 u73 u74 u75 u76 u77 u78 u79 u80 u81 u82 u83 u84 u85 u86 u87 u88 : Value} (mkS : Hid (∀ V, Ext W1 V → S V)) (HM : Hid (l.length = m ∧ m ≤ 1000)) (HRW : Hid (∀ V, Ext W1 V → RowC V (.slice pp m cl) m 4 (l.flatMap cV))) (hdone : ∀ (g0 : Nat) (p2 : Option Addr) (c2 : Nat)  (ga : Nat) (y : World), Hid (Ext W1 y) → Hid (Blk y ga (.bool true) (.int .i64 rr) (.int .i64 cc) (.slice p2 m c2)) → Hid (W1.heap.size ≤ ga) → Hid (RdV y.heap.size y (.slice p2 m c2) l) → Q .normal { tmps := #[u0, u1, u2, u3, u4, u5, u6, u7, u8, u9, (.pointer (some ⟨ga, 0, none⟩)), u11, u12, u13, u14, u15, u16, u17, u18, u19, u20, u21, u22, u23, (.slice pp m cl), (.int .i64 (m : Int)), (.int .i64 cc), (.int .i64 rr), (.int .i64 cc), (.slice (some ⟨g0, 0, none⟩) 0 0), (.slice pp m cl), (.slice p2 m c2), (.agg #[.bool true, .int .i64 rr, .int .i64 cc, .slice p2 m c2]), u33, u34, u35, u36, u37, u38, u39, u40, u41, u42, u43, u44, u45, u46, u47, u48, u49, u50, u51, u52, u53, u54, u55, u56, u57, u58, u59, u60, u61, u62, u63, u64, u65, u66, u67, u68, u69, u70, u71, u72, u73, u74, u75, u76, u77, u78, u79, u80, u81, u82, u83, u84, u85, u86, u87, u88], defers := [] } y) (g0 : Nat)  (y0 : World) (X : Hid (Ext W1 y0)) (FO : Hid (y0.ownsRow W1.heap.size 25 4 (.slice (some ⟨g0, 0, none⟩) 0 0) 0 [])) (FN : Hid (g0 < y0.heap.size ∧ y0.cell? ⟨g0, 0, none⟩ = none)) :
   wpBar Tryz.prog .any iaO Q (fun _ => false) S 4 #[true, true, true, true, true, true, true, false, false, false, false] { tmps := #[u0, u1, u2, u3, u4, u5, u6, u7, u8, u9, u10, u11, u12, u13, u14, u15, u16, u17, u18, u19, u20, u21, u22, u23, (.slice pp m cl), (.int .i64 (m : Int)), (.int .i64 cc), (.int .i64 rr), (.int .i64 cc), (.slice (some ⟨g0, 0, none⟩) 0 0), (.slice pp m cl), u31, u32, u33, u34, u35, u36, u37, u38, u39, u40, u41, u42, u43, u44, u45, u46, u47, u48, u49, u50, u51, u52, u53, u54, u55, u56, u57, u58, u59, u60, u61, u62, u63, u64, u65, u66, u67, u68, u69, u70, u71, u72, u73, u74, u75, u76, u77, u78, u79, u80, u81, u82, u83, u84, u85, u86, u87, u88], defers := [] } y0 := by
 unfold iaO
 refine bar_list (rs := [7, 9]) (by kernel_rfl) (by simp) ?_
 refine Bars.cons rfl (fun KK hKK => ?_) ?_
 · refine ite_of (by kernel_rfl) ?_
   refine own_wp eltV y0 W1 _ _ _ _ 0 m [] (l.flatMap cV) W1.heap.size rfl (by rfl) (by rfl) FO.out (HRW.out _ X.out) (cV_one l) (by unfold maxLen; have := HM.out.2; omega) (by have := HM.out.2; omega) X.out (Nat.le_refl _) X.out.size ?_
   intro v' y1 k1 k2 k3
   rw [Nat.zero_add, List.nil_append] at k1
   obtain ⟨p2, c2, rfl, _⟩ := own_form k1
   have FR : Hid (y1.ownsRow W1.heap.size 25 4 (.slice p2 m c2) m (l.flatMap cV)) := k1
   have X1 : Hid (Ext W1 y1) := k2
   have K1 : Hid (y0.grownBy y1 (some g0)) := k3
   have K2 : Hid (True) := trivial
   clear k1 k2 k3
   refine hKK.out _ _ (fun _ => mkS.out _ X1.out) ?_
   clear hKK KK
   replace X := X1
   clear X1 K1 K2
   rw [show (#[true, true, true, true, true, true, true, false, false, false, false] : Array Bool).setIfInBounds 7 true = #[true, true, true, true, true, true, true, true, false, false, false] from rfl]
   exact ia_2 mkS HM HRW hdone g0 p2 c2  y1 X FR
 · refine Bars.cons rfl (fun KK hKK => ?_) ?_
   · go_simp
     refine hKK.out _ _ (fun _ => mkS.out _ (X.out.alloc _)) ?_
     clear hKK KK
     obtain ⟨y1, hya⟩ : ∃ ya, World.alloc y0 (.cells #[.bool false, .int .i64 0, .int .i64 0, .slice none 0 0] 31) = ya := ⟨_, rfl⟩
     obtain ⟨ga, hga⟩ : ∃ g, y0.heap.size = g := ⟨_, rfl⟩
     have E : Ext y0 y1 := by rw [← hya]; exact (Ext.refl _).alloc _
     have Gga : Hid (Blk y1 ga (.bool false) (.int .i64 0) (.int .i64 0) (.slice none 0 0)) := by rw [← hya, ← hga]; exact blk_top rfl (Ext.refl _)
     have Nga : Hid (W1.heap.size ≤ ga) := by show _ ≤ _; rw [← hga]; exact X.out.sz
     rw [hya, hga]
     replace X : Hid (Ext W1 y1) := X.out.trans E
     replace FO := hxO FO E
     replace FN := hxN FN E
     clear E hya hga
     rw [show (#[true, true, true, true, true, true, true, false, false, false, false] : Array Bool).setIfInBounds 9 true = #[true, true, true, true, true, true, true, false, false, true, false] from rfl]
     exact ia_1ga mkS HM HRW hdone g0 ga y1 X FO FN Gga Nga
   · exact Bars.nil

set_option maxRecDepth 100000 in
theorem ia_0ga {pp : Option Addr} {m cl : Nat} {cc rr : Int} {l : List Rw} {W1 : World} {S : World → Prop} {Q : Exit → Act → World → Prop} {u0 u1 u2 u3 u4 u5 u6 u7 u8 u9 u11 u12 u13 u14 u15 u16 u17 u18 u19 u20 u21 u22 u23 u29 u31 u32 u33 u34 u35 u36 u37 u38 u39 u40 u41 u42 u43 u44 u45 u46 u47 u48 u49 u50 u51 u52 u53 u54 u55 u56 u57 u58 u59 u60 u61 u62 u63 u64 u65 u66 u67 u68 u69 u70 u71 u72 u73 u74 u75 u76 u77 u78 u79 u80 u81 u82 u83 u84 u85 u86 u87 u88 : Value} (mkS : Hid (∀ V, Ext W1 V → S V)) (HM : Hid (l.length = m ∧ m ≤ 1000)) (HRW : Hid (∀ V, Ext W1 V → RowC V (.slice pp m cl) m 4 (l.flatMap cV))) (hdone : ∀ (g0 : Nat) (p2 : Option Addr) (c2 : Nat)  (ga : Nat) (y : World), Hid (Ext W1 y) → Hid (Blk y ga (.bool true) (.int .i64 rr) (.int .i64 cc) (.slice p2 m c2)) → Hid (W1.heap.size ≤ ga) → Hid (RdV y.heap.size y (.slice p2 m c2) l) → Q .normal { tmps := #[u0, u1, u2, u3, u4, u5, u6, u7, u8, u9, (.pointer (some ⟨ga, 0, none⟩)), u11, u12, u13, u14, u15, u16, u17, u18, u19, u20, u21, u22, u23, (.slice pp m cl), (.int .i64 (m : Int)), (.int .i64 cc), (.int .i64 rr), (.int .i64 cc), (.slice (some ⟨g0, 0, none⟩) 0 0), (.slice pp m cl), (.slice p2 m c2), (.agg #[.bool true, .int .i64 rr, .int .i64 cc, .slice p2 m c2]), u33, u34, u35, u36, u37, u38, u39, u40, u41, u42, u43, u44, u45, u46, u47, u48, u49, u50, u51, u52, u53, u54, u55, u56, u57, u58, u59, u60, u61, u62, u63, u64, u65, u66, u67, u68, u69, u70, u71, u72, u73, u74, u75, u76, u77, u78, u79, u80, u81, u82, u83, u84, u85, u86, u87, u88], defers := [] } y)  (ga : Nat) (y0 : World) (X : Hid (Ext W1 y0)) (Gga : Hid (Blk y0 ga (.bool false) (.int .i64 0) (.int .i64 0) (.slice none 0 0))) (Nga : Hid (W1.heap.size ≤ ga)) :
   wpBar Tryz.prog .any iaO Q (fun _ => false) S 4 #[true, true, true, true, true, false, true, false, false, true, false] { tmps := #[u0, u1, u2, u3, u4, u5, u6, u7, u8, u9, (.pointer (some ⟨ga, 0, none⟩)), u11, u12, u13, u14, u15, u16, u17, u18, u19, u20, u21, u22, u23, (.slice pp m cl), (.int .i64 (m : Int)), (.int .i64 cc), (.int .i64 rr), (.int .i64 cc), u29, (.slice pp m cl), u31, u32, u33, u34, u35, u36, u37, u38, u39, u40, u41, u42, u43, u44, u45, u46, u47, u48, u49, u50, u51, u52, u53, u54, u55, u56, u57, u58, u59, u60, u61, u62, u63, u64, u65, u66, u67, u68, u69, u70, u71, u72, u73, u74, u75, u76, u77, u78, u79, u80, u81, u82, u83, u84, u85, u86, u87, u88], defers := [] } y0 := by
 unfold iaO
 refine bar_one (i := 5) (by kernel_rfl) rfl (fun KK hKK => ?_)
 go_simp
 refine hKK.out _ _ (fun _ => mkS.out _ (X.out.alloc _)) ?_
 clear hKK KK
 obtain ⟨y1, hya⟩ : ∃ ya, World.alloc y0 (.cells #[] 25) = ya := ⟨_, rfl⟩
 obtain ⟨g0, hga⟩ : ∃ g, y0.heap.size = g := ⟨_, rfl⟩
 have E : Ext y0 y1 := by rw [← hya]; exact (Ext.refl _).alloc _
 have FO : Hid (y1.ownsRow W1.heap.size 25 4 (.slice (some ⟨g0, 0, none⟩) 0 0) 0 []) := by rw [← hya, ← hga]; exact own_new W1 y0 X.out.size
 have FN : Hid (g0 < y1.heap.size ∧ y1.cell? ⟨g0, 0, none⟩ = none) := by rw [← hya, ← hga]; exact ⟨by simp, by simp [go_sem]⟩
 rw [hya, hga]
 replace X : Hid (Ext W1 y1) := X.out.trans E
 replace Gga := hx4 Gga E
 clear E hya hga
 rw [show (#[true, true, true, true, true, false, true, false, false, true, false] : Array Bool).setIfInBounds 5 true = #[true, true, true, true, true, true, true, false, false, true, false] from rfl]
 exact ia_1ga mkS HM HRW hdone g0 ga y1 X FO FN Gga Nga

set_option maxRecDepth 100000 in
theorem ia_0 {pp : Option Addr} {m cl : Nat} {cc rr : Int} {l : List Rw} {W1 : World} {S : World → Prop} {Q : Exit → Act → World → Prop} {u0 u1 u2 u3 u4 u5 u6 u7 u8 u9 u10 u11 u12 u13 u14 u15 u16 u17 u18 u19 u20 u21 u22 u23 u29 u31 u32 u33 u34 u35 u36 u37 u38 u39 u40 u41 u42 u43 u44 u45 u46 u47 u48 u49 u50 u51 u52 u53 u54 u55 u56 u57 u58 u59 u60 u61 u62 u63 u64 u65 u66 u67 u68 u69 u70 u71 u72 u73 u74 u75 u76 u77 u78 u79 u80 u81 u82 u83 u84 u85 u86 u87 u88 : Value} (mkS : Hid (∀ V, Ext W1 V → S V)) (HM : Hid (l.length = m ∧ m ≤ 1000)) (HRW : Hid (∀ V, Ext W1 V → RowC V (.slice pp m cl) m 4 (l.flatMap cV))) (hdone : ∀ (g0 : Nat) (p2 : Option Addr) (c2 : Nat)  (ga : Nat) (y : World), Hid (Ext W1 y) → Hid (Blk y ga (.bool true) (.int .i64 rr) (.int .i64 cc) (.slice p2 m c2)) → Hid (W1.heap.size ≤ ga) → Hid (RdV y.heap.size y (.slice p2 m c2) l) → Q .normal { tmps := #[u0, u1, u2, u3, u4, u5, u6, u7, u8, u9, (.pointer (some ⟨ga, 0, none⟩)), u11, u12, u13, u14, u15, u16, u17, u18, u19, u20, u21, u22, u23, (.slice pp m cl), (.int .i64 (m : Int)), (.int .i64 cc), (.int .i64 rr), (.int .i64 cc), (.slice (some ⟨g0, 0, none⟩) 0 0), (.slice pp m cl), (.slice p2 m c2), (.agg #[.bool true, .int .i64 rr, .int .i64 cc, .slice p2 m c2]), u33, u34, u35, u36, u37, u38, u39, u40, u41, u42, u43, u44, u45, u46, u47, u48, u49, u50, u51, u52, u53, u54, u55, u56, u57, u58, u59, u60, u61, u62, u63, u64, u65, u66, u67, u68, u69, u70, u71, u72, u73, u74, u75, u76, u77, u78, u79, u80, u81, u82, u83, u84, u85, u86, u87, u88], defers := [] } y)   (y0 : World) (X : Hid (Ext W1 y0)) :
   wpBar Tryz.prog .any iaO Q (fun _ => false) S 5 #[true, true, true, true, true, false, true, false, false, false, false] { tmps := #[u0, u1, u2, u3, u4, u5, u6, u7, u8, u9, u10, u11, u12, u13, u14, u15, u16, u17, u18, u19, u20, u21, u22, u23, (.slice pp m cl), (.int .i64 (m : Int)), (.int .i64 cc), (.int .i64 rr), (.int .i64 cc), u29, (.slice pp m cl), u31, u32, u33, u34, u35, u36, u37, u38, u39, u40, u41, u42, u43, u44, u45, u46, u47, u48, u49, u50, u51, u52, u53, u54, u55, u56, u57, u58, u59, u60, u61, u62, u63, u64, u65, u66, u67, u68, u69, u70, u71, u72, u73, u74, u75, u76, u77, u78, u79, u80, u81, u82, u83, u84, u85, u86, u87, u88], defers := [] } y0 := by
 unfold iaO
 refine bar_list (rs := [5, 9]) (by kernel_rfl) (by simp) ?_
 refine Bars.cons rfl (fun KK hKK => ?_) ?_
 · go_simp
   refine hKK.out _ _ (fun _ => mkS.out _ (X.out.alloc _)) ?_
   clear hKK KK
   obtain ⟨y1, hya⟩ : ∃ ya, World.alloc y0 (.cells #[] 25) = ya := ⟨_, rfl⟩
   obtain ⟨g0, hga⟩ : ∃ g, y0.heap.size = g := ⟨_, rfl⟩
   have E : Ext y0 y1 := by rw [← hya]; exact (Ext.refl _).alloc _
   have FO : Hid (y1.ownsRow W1.heap.size 25 4 (.slice (some ⟨g0, 0, none⟩) 0 0) 0 []) := by rw [← hya, ← hga]; exact own_new W1 y0 X.out.size
   have FN : Hid (g0 < y1.heap.size ∧ y1.cell? ⟨g0, 0, none⟩ = none) := by rw [← hya, ← hga]; exact ⟨by simp, by simp [go_sem]⟩
   rw [hya, hga]
   replace X : Hid (Ext W1 y1) := X.out.trans E
   clear E hya hga
   rw [show (#[true, true, true, true, true, false, true, false, false, false, false] : Array Bool).setIfInBounds 5 true = #[true, true, true, true, true, true, true, false, false, false, false] from rfl]
   exact ia_1 mkS HM HRW hdone g0  y1 X FO FN
 · refine Bars.cons rfl (fun KK hKK => ?_) ?_
   · go_simp
     refine hKK.out _ _ (fun _ => mkS.out _ (X.out.alloc _)) ?_
     clear hKK KK
     obtain ⟨y1, hya⟩ : ∃ ya, World.alloc y0 (.cells #[.bool false, .int .i64 0, .int .i64 0, .slice none 0 0] 31) = ya := ⟨_, rfl⟩
     obtain ⟨ga, hga⟩ : ∃ g, y0.heap.size = g := ⟨_, rfl⟩
     have E : Ext y0 y1 := by rw [← hya]; exact (Ext.refl _).alloc _
     have Gga : Hid (Blk y1 ga (.bool false) (.int .i64 0) (.int .i64 0) (.slice none 0 0)) := by rw [← hya, ← hga]; exact blk_top rfl (Ext.refl _)
     have Nga : Hid (W1.heap.size ≤ ga) := by show _ ≤ _; rw [← hga]; exact X.out.sz
     rw [hya, hga]
     replace X : Hid (Ext W1 y1) := X.out.trans E
     clear E hya hga
     rw [show (#[true, true, true, true, true, false, true, false, false, false, false] : Array Bool).setIfInBounds 9 true = #[true, true, true, true, true, false, true, false, false, true, false] from rfl]
     exact ia_0ga mkS HM HRW hdone  ga y1 X Gga Nga
   · exact Bars.nil

end Go.Proofs.YtalejeknigbhjaaGreatDoor
