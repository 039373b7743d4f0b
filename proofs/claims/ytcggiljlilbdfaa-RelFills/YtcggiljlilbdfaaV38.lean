/-
 The document's answer for layer 10: a formula seen from its place, and back.
 The document's Refs of package rel.
 How many errors a tree has, as the law counts them.
 Lists of rectangles, one by one; how many a tree names, and how many errors it has, at most.
-/
import Derived.Test.YtcggiljlilbdfaaV31
import Derived.Test.YtcggiljlilbdfaaV37
import Derived.Test.YtcggiljlilbdfaaV32
namespace Go.Proofs.Ytcggiljlilbdfaa
open Go.RowKit
set_option maxHeartbeats 6000000

set_option maxRecDepth 100000 in
theorem rmoved_any (r : Rf) (dr dc : Int) (W : World) :
   Calls Try.prog 43 #[.agg #[.int .i64 r.1, .int .i64 r.2.1, .bool r.2.2.1, .bool r.2.2.2], .int .i64 dr, .int .i64 dc] W fun e w' => e = .returned (.agg #[.int .i64 (mvF dr dc r).1, .int .i64 (mvF dr dc r).2.1, .bool (mvF dr dc r).2.2.1, .bool (mvF dr dc r).2.2.2]) ∧ Ext W w' := by
 obtain ⟨a, b, x, y⟩ := r
 cases x <;> cases y
 · go_enter Try.func43, Try.ntmps43
   go_wp2_with fail
   exact bodyPost_ret (v := .agg #[.int .i64 (wrap64 (a + dr)), .int .i64 (wrap64 (b + dc)), .bool false, .bool false]) (by simp [results, Try.results43, go_sem]) rfl ⟨rfl, ((Ext.refl _).alloc _).alloc _⟩
 · go_enter Try.func43, Try.ntmps43
   go_wp2_with fail
   exact bodyPost_ret (v := .agg #[.int .i64 (wrap64 (a + dr)), .int .i64 (b), .bool false, .bool true]) (by simp [results, Try.results43, go_sem]) rfl ⟨rfl, ((Ext.refl _).alloc _).alloc _⟩
 · go_enter Try.func43, Try.ntmps43
   go_wp2_with fail
   exact bodyPost_ret (v := .agg #[.int .i64 (a), .int .i64 (wrap64 (b + dc)), .bool true, .bool false]) (by simp [results, Try.results43, go_sem]) rfl ⟨rfl, ((Ext.refl _).alloc _).alloc _⟩
 · go_enter Try.func43, Try.ntmps43
   go_wp2_with fail
   exact bodyPost_ret (v := .agg #[.int .i64 (a), .int .i64 (b), .bool true, .bool true]) (by simp [results, Try.results43, go_sem]) rfl ⟨rfl, ((Ext.refl _).alloc _).alloc _⟩
theorem rparts10_any (k : Int) (w : World) : Calls Try.prog 44 #[.int .i64 k] w fun e w' => e = .returned (.bool (prB k)) ∧ w' = w := by
 by_cases k6 : k = 6
 · have e6 : (k == 6) = true := by rw [k6]; rfl
   have HX : Hid (prB k = true) := by show _ = _; unfold prB; rw [k6]; rfl
   clear k6
   go_enter Try.func44, Try.ntmps44
   go_wp2_with fail
   go_ret
   exact ⟨ret_bool HX.out.symm, rfl⟩
 by_cases k7 : k = 7
 · have e6 : (k == 6) = false := by simpa using k6
   have e7 : (k == 7) = true := by rw [k7]; rfl
   have HX : Hid (prB k = true) := by show _ = _; unfold prB; rw [k7]; rfl
   clear k6 k7
   go_enter Try.func44, Try.ntmps44
   go_wp2_with fail
   go_ret
   exact ⟨ret_bool HX.out.symm, rfl⟩
 · have e6 : (k == 6) = false := by simpa using k6
   have e7 : (k == 7) = false := by simpa using k7
   have HX : Hid (prB k = (k == 8)) := by show _ = _; unfold prB; rw [Bool.eq_iff_iff]; simp [k6, k7]
   clear k6 k7
   go_enter Try.func44, Try.ntmps44
   go_wp2_with fail
   go_ret
   exact ⟨ret_bool HX.out.symm, rfl⟩
/-- What the document's functions of trees answer: a tree whose lists lie where those of the argument did, or in new memory. -/
def DcQ (P : Nat → Prop) (w : World) (t : T) (e : Ending) (w' : World) : Prop := ∃ p l c, e = .returned (aggX t (.slice p l c)) ∧ IsL w' (fun k => P k ∨ w.heap.size ≤ k) (.slice p l c) t.l ∧ Ext w w'
theorem OwY.isL {w : World} {base : Nat} {P : Nat → Prop} {v : Value} {ps : List (T × Value)} (h : OwY w base v ps) (hb : ∀ k, base ≤ k → P k) (hx : ∀ p ∈ ps, IsL w P p.2 p.1.l) : IsL w P v (ps.map Prod.fst) := by
 obtain ⟨_, h1⟩ := h
 rcases h1 with ⟨h1, h0⟩ | ⟨g, cap, cur, h1, h3, h4, h5, h6, h7, h8⟩
 · have : ps = [] := List.eq_nil_of_length_eq_zero h0
   subst this h1
   exact .nil
 · subst h1
   refine .mk g 0 cap ps.length _ (fun i => match ps[i]? with | some p => p.2 | none => .slice none 0 0) (by simp) h5 (hb g h3) (heap_lt h4) ?_ ?_
   · intro i t j u hi hj
     rw [List.getElem?_map, Option.map_eq_some_iff] at hi
     obtain ⟨p, hp, rfl⟩ := hi
     simp only [hp] at hj
     have k := flatX_at ps i j p u hp hj
     have hj13 : i * 13 + j < (flatX ps).length := (List.getElem?_eq_some_iff.mp k).1
     rw [flatX_length] at hj13
     rw [cell_of_row w g _ cur _ (0, 0) h4, Nat.zero_add, ← Array.getElem?_toList]
     rw [← h8, List.getElem?_take, if_pos (by omega)] at k
     exact k
   · intro i t hi
     rw [List.getElem?_map, Option.map_eq_some_iff] at hi
     obtain ⟨p, hp, rfl⟩ := hi
     simp only [hp]
     exact hx p (List.mem_of_getElem? hp)
theorem OwY.ext {w w' : World} {base : Nat} {v : Value} {ps : List (T × Value)} (h : OwY w base v ps) (e : Ext w w') : OwY w' base v ps := by
 refine ⟨h.1, ?_⟩
 rcases h.2 with h2 | ⟨g, cap, cur, h1, h2, h3, h4⟩
 · exact .inl h2
 · exact .inr ⟨g, cap, cur, h1, h2, (e.block g (heap_lt h3)).trans h3, h4⟩
theorem OwY.zero {W W' : World} {base g : Nat} (hW : W' = W.alloc (.cells #[] 26)) (hg : g = W.heap.size) (hb : base ≤ g) : OwY W' base (.slice (some ⟨g, 0, none⟩) 0 0) [] := (OwX.zero hW hg hb).1
theorem ext_grownY {w W W' : World} {base : Nat} {v : Value} {ps : List (T × Value)} (h : W.grownBy W' v.ownBlock) (hB : OwY W base v ps) (hE : Ext w W) (hb : w.heap.size ≤ base) : Ext w W' :=
 ⟨h.os.trans hE.os, h.tape.trans hE.tape, h.output.trans hE.output, Nat.le_trans hE.size h.size, fun k hk =>
   (h.block k (Nat.lt_of_lt_of_le hk hE.size) (fun e => hB.far (Nat.lt_of_lt_of_le hk hb) e.symm)).trans (hE.block k hk)⟩

open Go.RowKit
set_option maxHeartbeats 6000000

def RrQ (W : World) (l : List Rc) (e : Ending) (w' : World) : Prop := ∃ g c, e = .returned (.slice (some ⟨g, 0, none⟩) l.length c) ∧ g < w'.heap.size ∧ (∀ j u, (flatR l)[j]? = some u → w'.cell? ⟨g, j, none⟩ = some u) ∧ Ext W w'
theorem RrQ.one {W w : World} (q : Rc) (h : Ext W w) : RrQ W [q] (.returned (.slice (some ⟨w.heap.size, 0, none⟩) 1 1)) (w.alloc (.cells #[.int .i64 q.1, .int .i64 q.2.1, .int .i64 q.2.2.1, .int .i64 q.2.2.2] 40)) := by
 refine ⟨w.heap.size, 1, rfl, by simp, ?_, h.alloc _⟩
 intro j u hu
 rw [cell_of_row _ _ _ _ _ (0, 0) (new_top _ _), ← hu, ← Array.getElem?_toList]; rfl

open Go.RowKit
set_option maxHeartbeats 6000000

def ErC (n : Nat) (t : T) : Prop := ∀ (W : World) (P : Nat → Prop) (pp : Option Addr) (ln cl : Nat), IsL W P (.slice pp ln cl) t.l → erT n t ≤ 100000 → Calls Try.prog 24 #[.agg #[.int .i64 t.k, .int .i64 t.n, .string (bs t.s), .int .i64 t.e, .int .i64 t.r.1, .int .i64 t.r.2.1, .bool t.r.2.2.1, .bool t.r.2.2.2, .int .i64 t.q.1, .int .i64 t.q.2.1, .bool t.q.2.2.1, .bool t.q.2.2.2, .slice pp ln cl]] W fun e w' => e = .returned (.int .i64 (erT n t : Int)) ∧ Ext W w'
theorem sumE_le (f : T → Nat) (l : List T) (j : Nat) (x : T) (h : l[j]? = some x) : ((l.take j).map f).sum + f x ≤ (l.map f).sum := by
 obtain ⟨hj, hx⟩ := List.getElem?_eq_some_iff.1 h
 have e : l = l.take j ++ x :: l.drop (j + 1) := by
   rw [← hx, ← List.drop_eq_getElem_cons hj, List.take_append_drop]
 have e2 : (l.map f).sum = ((l.take j).map f).sum + (f x + ((l.drop (j + 1)).map f).sum) := by
   conv => lhs; rw [e]
   simp
 rw [e2]
 omega
theorem sumE_take (f : T → Nat) (l : List T) (j : Nat) (x : T) (h : l[j]? = some x) : ((l.take (j + 1)).map f).sum = ((l.take j).map f).sum + f x := by
 rw [List.take_add_one, h]; simp
set_option maxRecDepth 100000 in
theorem errs_3 (n : Nat) (t : T) (hk : t.k = 3) : ErC (n + 1) t := by
 intro W P pp ln cl hL hn
 have e3 : (t.k == 3) = true := by rw [hk]; rfl
 have e6 : (t.k == 6) = false := by rw [hk]; rfl
 have e7 : (t.k == 7) = false := by rw [hk]; rfl
 have e8 : (t.k == 8) = false := by rw [hk]; rfl
 have HX : Hid (erT (n + 1) t = 1) := by show _ = _; rw [erT, hk]; simp [prB]
 have hln : ln ≤ cl := by
   obtain ⟨p, c, h1, h2⟩ := hL.form
   cases h1; exact h2
 clear hL hn hk hln
 go_enter Try.func24, Try.ntmps24
 go_wp2_with fail
 go_loopw [3, 4] (fun m iv wr => iv = .int .i64 0 ∧ m = .int .i64 1 ∧ BlkX wr W.heap.size t (.slice pp ln cl) ∧ Ext W wr) (fun _ _ _ => 0)
 case atStart => exact ⟨rfl, rfl, (blk13_top rfl (Ext.refl _)), (Ext.refl _).alloc _⟩
 case round =>
   obtain ⟨rfl, rfl, hB, hE⟩ := hrel
   have HS : Hid (Ext W wr) := hE
   obtain ⟨qb, ⟨lb0, lb1, lb2, lb3, lb4, lb5, lb6, lb7, lb8, lb9, lb10, lb11, lb12⟩, gb0, gb1, gb2, gb3, gb4, gb5, gb6, gb7, gb8, gb9, gb10, gb11, gb12⟩ := hB
   clear hE
   by_cases hlt : 0 < ln
   · have hltI : (0 : Int) < (ln : Int) := by omega
     clear hlt
     go_wp2_with fail
     go_ret
     rw [HX.out]
     exact ⟨rfl, HS.out⟩
   · have hltI : ¬ (0 : Int) < (ln : Int) := by omega
     clear hlt
     go_wp2_with fail
     go_ret
     rw [HX.out]
     exact ⟨rfl, HS.out⟩
set_option maxRecDepth 100000 in
theorem errs_0 (n : Nat) (t : T) (hk3 : t.k ≠ 3) (hk6 : t.k ≠ 6) (hk7 : t.k ≠ 7) (hk8 : t.k ≠ 8) : ErC (n + 1) t := by
 intro W P pp ln cl hL hn
 have e3 : (t.k == 3) = false := by simpa using hk3
 have e6 : (t.k == 6) = false := by simpa using hk6
 have e7 : (t.k == 7) = false := by simpa using hk7
 have e8 : (t.k == 8) = false := by simpa using hk8
 have HX : Hid (erT (n + 1) t = 0) := by show _ = _; rw [erT, if_neg hk3]; simp [prB, hk6, hk7, hk8]
 have hln : ln ≤ cl := by
   obtain ⟨p, c, h1, h2⟩ := hL.form
   cases h1; exact h2
 clear hL hn hk3 hk6 hk7 hk8 hln
 go_enter Try.func24, Try.ntmps24
 go_wp2_with fail
 go_loopw [3, 4] (fun m iv wr => iv = .int .i64 0 ∧ m = .int .i64 0 ∧ BlkX wr W.heap.size t (.slice pp ln cl) ∧ Ext W wr) (fun _ _ _ => 0)
 case atStart => exact ⟨rfl, rfl, (blk13_top rfl (Ext.refl _)), (Ext.refl _).alloc _⟩
 case round =>
   obtain ⟨rfl, rfl, hB, hE⟩ := hrel
   have HS : Hid (Ext W wr) := hE
   obtain ⟨qb, ⟨lb0, lb1, lb2, lb3, lb4, lb5, lb6, lb7, lb8, lb9, lb10, lb11, lb12⟩, gb0, gb1, gb2, gb3, gb4, gb5, gb6, gb7, gb8, gb9, gb10, gb11, gb12⟩ := hB
   clear hE
   by_cases hlt : 0 < ln
   · have hltI : (0 : Int) < (ln : Int) := by omega
     clear hlt
     go_wp2_with fail
     go_ret
     rw [HX.out]
     exact ⟨rfl, HS.out⟩
   · have hltI : ¬ (0 : Int) < (ln : Int) := by omega
     clear hlt
     go_wp2_with fail
     go_ret
     rw [HX.out]
     exact ⟨rfl, HS.out⟩
set_option maxRecDepth 100000 in
theorem errs_6 (n : Nat) (t : T) (hk : t.k = 6) (hl : t.l.length ≤ 100000) (ih : ∀ x ∈ t.l, ErC n x) : ErC (n + 1) t := by
 intro W P pp ln cl hL hn
 have e3 : (t.k == 3) = false := by rw [hk]; rfl
 have e6 : (t.k == 6) = true := by rw [hk]; rfl
 have e7 : (t.k == 7) = false := by rw [hk]; rfl
 have e8 : (t.k == 8) = false := by rw [hk]; rfl
 have HX : Hid (erT (n + 1) t = (t.l.map (erT n)).sum) := by show _ = _; rw [erT, hk]; simp [prB]
 have hln : ln = t.l.length := by
   obtain ⟨p, c, h1, _⟩ := hL.form
   cases h1; rfl
 have HI : Hid (IsL W P (.slice pp ln cl) t.l) := hL
 have HLN : Hid (ln = t.l.length) := hln
 have HN : Hid (erT (n + 1) t ≤ 100000) := hn
 have HIH : Hid (∀ x ∈ t.l, ErC n x) := ih
 have hl2 : ln ≤ 100000 := by omega
 clear hL hn hln hk ih hl
 go_enter Try.func24, Try.ntmps24
 go_wp2_with fail
 go_loopw [3, 4] (fun m iv wr => ∃ j : Nat, j ≤ ln ∧ iv = .int .i64 (j : Int) ∧ m = .int .i64 ((((t.l.take j).map (erT n)).sum : Nat) : Int) ∧ BlkX wr W.heap.size t (.slice pp ln cl) ∧ Ext W wr) (fun _ iv _ => ln - (intOf iv).toNat)
 case atStart => exact ⟨0, Nat.zero_le _, rfl, rfl, (blk13_top rfl (Ext.refl _)), (Ext.refl _).alloc _⟩
 case round =>
   obtain ⟨j, hj, rfl, rfl, hB, hE⟩ := hrel
   obtain ⟨s, hs⟩ : ∃ s, ((t.l.take j).map (erT n)).sum = s := ⟨_, rfl⟩
   have HRS : Hid (((t.l.take j).map (erT n)).sum = s) := hs
   rw [hs]
   have HS : Hid (BlkX wr W.heap.size t (.slice pp ln cl) ∧ Ext W wr) := ⟨hB, hE⟩
   obtain ⟨qb, ⟨lb0, lb1, lb2, lb3, lb4, lb5, lb6, lb7, lb8, lb9, lb10, lb11, lb12⟩, gb0, gb1, gb2, gb3, gb4, gb5, gb6, gb7, gb8, gb9, gb10, gb11, gb12⟩ := hB
   clear hE hs
   by_cases hlt : j < ln
   · have hltI : (j : Int) < (ln : Int) := by omega
     obtain ⟨gb, off, x, lv, hpp, hx1, hA1, hgb0, hA2, hLx, hce0⟩ := HI.out.at (i := j) (by rw [← HLN.out]; exact hlt)
     have hce : ∀ i u, (cellsT x lv)[i]? = some u → wr.cell? ⟨gb, off + j * 13 + i, none⟩ = some u := fun i u hu => (HS.out.2.cell.1 gb _ hgb0).trans (hce0 i u hu)
     have hgb : gb < wr.heap.size := Nat.lt_of_lt_of_le hgb0 HS.out.2.size
     clear hA1 hA2 hce0 hgb0
     cases hpp
     obtain ⟨pp, cl', hlv, hcl⟩ := hLx.form
     obtain ⟨ln', hln'⟩ : ∃ ln', x.l.length = ln' := ⟨_, rfl⟩
     rw [hln'] at hlv
     subst hlv
     have HX1 : Hid (t.l[j]? = some x) := hx1
     have hle : s + erT n x ≤ 100000 := by
       have h1 := HN.out
       rw [HX.out] at h1
       have h2 := sumE_le (erT n) t.l j x hx1
       rw [HRS.out] at h2
       omega
     have HC : Hid (∀ V, Ext wr V → Calls Try.prog 24 #[.agg #[.int .i64 x.k, .int .i64 x.n, .string (bs x.s), .int .i64 x.e, .int .i64 x.r.1, .int .i64 x.r.2.1, .bool x.r.2.2.1, .bool x.r.2.2.2, .int .i64 x.q.1, .int .i64 x.q.2.1, .bool x.q.2.2.1, .bool x.q.2.2.2, .slice pp ln' cl']] V fun e w' => e = .returned (.int .i64 (erT n x : Int)) ∧ Ext V w') := fun V e => HIH.out x (List.mem_of_getElem? hx1) V P pp ln' cl' (hLx.ext (HS.out.2.trans e)) (by omega)
     have d0 : wr.cell? ⟨gb, off + j * 13, none⟩ = some (.int .i64 x.k) := hce 0 _ rfl
     have d1 : wr.cell? ⟨gb, off + j * 13 + 1, none⟩ = some (.int .i64 x.n) := hce 1 _ rfl
     have d2 : wr.cell? ⟨gb, off + j * 13 + 2, none⟩ = some (.string (bs x.s)) := hce 2 _ rfl
     have d3 : wr.cell? ⟨gb, off + j * 13 + 3, none⟩ = some (.int .i64 x.e) := hce 3 _ rfl
     have d4 : wr.cell? ⟨gb, off + j * 13 + 4, none⟩ = some (.int .i64 x.r.1) := hce 4 _ rfl
     have d5 : wr.cell? ⟨gb, off + j * 13 + 5, none⟩ = some (.int .i64 x.r.2.1) := hce 5 _ rfl
     have d6 : wr.cell? ⟨gb, off + j * 13 + 6, none⟩ = some (.bool x.r.2.2.1) := hce 6 _ rfl
     have d7 : wr.cell? ⟨gb, off + j * 13 + 7, none⟩ = some (.bool x.r.2.2.2) := hce 7 _ rfl
     have d8 : wr.cell? ⟨gb, off + j * 13 + 8, none⟩ = some (.int .i64 x.q.1) := hce 8 _ rfl
     have d9 : wr.cell? ⟨gb, off + j * 13 + 9, none⟩ = some (.int .i64 x.q.2.1) := hce 9 _ rfl
     have d10 : wr.cell? ⟨gb, off + j * 13 + 10, none⟩ = some (.bool x.q.2.2.1) := hce 10 _ rfl
     have d11 : wr.cell? ⟨gb, off + j * 13 + 11, none⟩ = some (.bool x.q.2.2.2) := hce 11 _ rfl
     have d12 : wr.cell? ⟨gb, off + j * 13 + 12, none⟩ = some (.slice pp ln' cl') := hce 12 _ rfl
     clear hx1 hLx hce hcl hln'
     go_wp2_with fail
     refine (HC.out _ (Ext.refl _)).mono ?_
     rintro e w3 ⟨rfl, E3⟩
     obtain ⟨m, hm⟩ : ∃ m, erT n x = m := ⟨_, rfl⟩
     have HM : Hid (erT n x = m) := hm
     rw [hm] at hle ⊢
     have HS3 : Hid (BlkX w3 W.heap.size t (.slice (some ⟨gb, off, none⟩) ln cl) ∧ Ext W w3) := ⟨HS.out.1.ext E3, HS.out.2.trans E3⟩
     clear E3 hm HC qb lb0 lb1 lb2 lb3 lb4 lb5 lb6 lb7 lb8 lb9 lb10 lb11 lb12 gb0 gb1 gb2 gb3 gb4 gb5 gb6 gb7 gb8 gb9 gb10 gb11 gb12 d0 d1 d2 d3 d4 d5 d6 d7 d8 d9 d10 d11 d12
     go_wp2_with fail
     go_roundw
     case rel =>
       refine ⟨j + 1, by omega, by go_num, ?_, HS3.out.1, HS3.out.2⟩
       rw [sumE_take _ _ _ _ HX1.out, HRS.out, HM.out]
       go_num
     case measure => show ln - ((j : Int) + 1).toNat < ln - ((j : Int)).toNat; omega
   · have hltI : ¬ (j : Int) < (ln : Int) := by omega
     have hjl : j = ln := by omega
     have HE : Hid (erT (n + 1) t = s) := by
       have h1 := HRS.out
       rw [hjl, HLN.out, List.take_length] at h1
       show _ = _
       rw [HX.out]; exact h1
     clear hlt hjl
     go_wp2_with fail
     go_ret
     rw [HE.out]
     exact ⟨rfl, HS.out.2⟩
set_option maxRecDepth 100000 in
theorem errs_7 (n : Nat) (t : T) (hk : t.k = 7) (hl : t.l.length ≤ 100000) (ih : ∀ x ∈ t.l, ErC n x) : ErC (n + 1) t := by
 intro W P pp ln cl hL hn
 have e3 : (t.k == 3) = false := by rw [hk]; rfl
 have e6 : (t.k == 6) = false := by rw [hk]; rfl
 have e7 : (t.k == 7) = true := by rw [hk]; rfl
 have e8 : (t.k == 8) = false := by rw [hk]; rfl
 have HX : Hid (erT (n + 1) t = (t.l.map (erT n)).sum) := by show _ = _; rw [erT, hk]; simp [prB]
 have hln : ln = t.l.length := by
   obtain ⟨p, c, h1, _⟩ := hL.form
   cases h1; rfl
 have HI : Hid (IsL W P (.slice pp ln cl) t.l) := hL
 have HLN : Hid (ln = t.l.length) := hln
 have HN : Hid (erT (n + 1) t ≤ 100000) := hn
 have HIH : Hid (∀ x ∈ t.l, ErC n x) := ih
 have hl2 : ln ≤ 100000 := by omega
 clear hL hn hln hk ih hl
 go_enter Try.func24, Try.ntmps24
 go_wp2_with fail
 go_loopw [3, 4] (fun m iv wr => ∃ j : Nat, j ≤ ln ∧ iv = .int .i64 (j : Int) ∧ m = .int .i64 ((((t.l.take j).map (erT n)).sum : Nat) : Int) ∧ BlkX wr W.heap.size t (.slice pp ln cl) ∧ Ext W wr) (fun _ iv _ => ln - (intOf iv).toNat)
 case atStart => exact ⟨0, Nat.zero_le _, rfl, rfl, (blk13_top rfl (Ext.refl _)), (Ext.refl _).alloc _⟩
 case round =>
   obtain ⟨j, hj, rfl, rfl, hB, hE⟩ := hrel
   obtain ⟨s, hs⟩ : ∃ s, ((t.l.take j).map (erT n)).sum = s := ⟨_, rfl⟩
   have HRS : Hid (((t.l.take j).map (erT n)).sum = s) := hs
   rw [hs]
   have HS : Hid (BlkX wr W.heap.size t (.slice pp ln cl) ∧ Ext W wr) := ⟨hB, hE⟩
   obtain ⟨qb, ⟨lb0, lb1, lb2, lb3, lb4, lb5, lb6, lb7, lb8, lb9, lb10, lb11, lb12⟩, gb0, gb1, gb2, gb3, gb4, gb5, gb6, gb7, gb8, gb9, gb10, gb11, gb12⟩ := hB
   clear hE hs
   by_cases hlt : j < ln
   · have hltI : (j : Int) < (ln : Int) := by omega
     obtain ⟨gb, off, x, lv, hpp, hx1, hA1, hgb0, hA2, hLx, hce0⟩ := HI.out.at (i := j) (by rw [← HLN.out]; exact hlt)
     have hce : ∀ i u, (cellsT x lv)[i]? = some u → wr.cell? ⟨gb, off + j * 13 + i, none⟩ = some u := fun i u hu => (HS.out.2.cell.1 gb _ hgb0).trans (hce0 i u hu)
     have hgb : gb < wr.heap.size := Nat.lt_of_lt_of_le hgb0 HS.out.2.size
     clear hA1 hA2 hce0 hgb0
     cases hpp
     obtain ⟨pp, cl', hlv, hcl⟩ := hLx.form
     obtain ⟨ln', hln'⟩ : ∃ ln', x.l.length = ln' := ⟨_, rfl⟩
     rw [hln'] at hlv
     subst hlv
     have HX1 : Hid (t.l[j]? = some x) := hx1
     have hle : s + erT n x ≤ 100000 := by
       have h1 := HN.out
       rw [HX.out] at h1
       have h2 := sumE_le (erT n) t.l j x hx1
       rw [HRS.out] at h2
       omega
     have HC : Hid (∀ V, Ext wr V → Calls Try.prog 24 #[.agg #[.int .i64 x.k, .int .i64 x.n, .string (bs x.s), .int .i64 x.e, .int .i64 x.r.1, .int .i64 x.r.2.1, .bool x.r.2.2.1, .bool x.r.2.2.2, .int .i64 x.q.1, .int .i64 x.q.2.1, .bool x.q.2.2.1, .bool x.q.2.2.2, .slice pp ln' cl']] V fun e w' => e = .returned (.int .i64 (erT n x : Int)) ∧ Ext V w') := fun V e => HIH.out x (List.mem_of_getElem? hx1) V P pp ln' cl' (hLx.ext (HS.out.2.trans e)) (by omega)
     have d0 : wr.cell? ⟨gb, off + j * 13, none⟩ = some (.int .i64 x.k) := hce 0 _ rfl
     have d1 : wr.cell? ⟨gb, off + j * 13 + 1, none⟩ = some (.int .i64 x.n) := hce 1 _ rfl
     have d2 : wr.cell? ⟨gb, off + j * 13 + 2, none⟩ = some (.string (bs x.s)) := hce 2 _ rfl
     have d3 : wr.cell? ⟨gb, off + j * 13 + 3, none⟩ = some (.int .i64 x.e) := hce 3 _ rfl
     have d4 : wr.cell? ⟨gb, off + j * 13 + 4, none⟩ = some (.int .i64 x.r.1) := hce 4 _ rfl
     have d5 : wr.cell? ⟨gb, off + j * 13 + 5, none⟩ = some (.int .i64 x.r.2.1) := hce 5 _ rfl
     have d6 : wr.cell? ⟨gb, off + j * 13 + 6, none⟩ = some (.bool x.r.2.2.1) := hce 6 _ rfl
     have d7 : wr.cell? ⟨gb, off + j * 13 + 7, none⟩ = some (.bool x.r.2.2.2) := hce 7 _ rfl
     have d8 : wr.cell? ⟨gb, off + j * 13 + 8, none⟩ = some (.int .i64 x.q.1) := hce 8 _ rfl
     have d9 : wr.cell? ⟨gb, off + j * 13 + 9, none⟩ = some (.int .i64 x.q.2.1) := hce 9 _ rfl
     have d10 : wr.cell? ⟨gb, off + j * 13 + 10, none⟩ = some (.bool x.q.2.2.1) := hce 10 _ rfl
     have d11 : wr.cell? ⟨gb, off + j * 13 + 11, none⟩ = some (.bool x.q.2.2.2) := hce 11 _ rfl
     have d12 : wr.cell? ⟨gb, off + j * 13 + 12, none⟩ = some (.slice pp ln' cl') := hce 12 _ rfl
     clear hx1 hLx hce hcl hln'
     go_wp2_with fail
     refine (HC.out _ (Ext.refl _)).mono ?_
     rintro e w3 ⟨rfl, E3⟩
     obtain ⟨m, hm⟩ : ∃ m, erT n x = m := ⟨_, rfl⟩
     have HM : Hid (erT n x = m) := hm
     rw [hm] at hle ⊢
     have HS3 : Hid (BlkX w3 W.heap.size t (.slice (some ⟨gb, off, none⟩) ln cl) ∧ Ext W w3) := ⟨HS.out.1.ext E3, HS.out.2.trans E3⟩
     clear E3 hm HC qb lb0 lb1 lb2 lb3 lb4 lb5 lb6 lb7 lb8 lb9 lb10 lb11 lb12 gb0 gb1 gb2 gb3 gb4 gb5 gb6 gb7 gb8 gb9 gb10 gb11 gb12 d0 d1 d2 d3 d4 d5 d6 d7 d8 d9 d10 d11 d12
     go_wp2_with fail
     go_roundw
     case rel =>
       refine ⟨j + 1, by omega, by go_num, ?_, HS3.out.1, HS3.out.2⟩
       rw [sumE_take _ _ _ _ HX1.out, HRS.out, HM.out]
       go_num
     case measure => show ln - ((j : Int) + 1).toNat < ln - ((j : Int)).toNat; omega
   · have hltI : ¬ (j : Int) < (ln : Int) := by omega
     have hjl : j = ln := by omega
     have HE : Hid (erT (n + 1) t = s) := by
       have h1 := HRS.out
       rw [hjl, HLN.out, List.take_length] at h1
       show _ = _
       rw [HX.out]; exact h1
     clear hlt hjl
     go_wp2_with fail
     go_ret
     rw [HE.out]
     exact ⟨rfl, HS.out.2⟩
set_option maxRecDepth 100000 in
theorem errs_8 (n : Nat) (t : T) (hk : t.k = 8) (hl : t.l.length ≤ 100000) (ih : ∀ x ∈ t.l, ErC n x) : ErC (n + 1) t := by
 intro W P pp ln cl hL hn
 have e3 : (t.k == 3) = false := by rw [hk]; rfl
 have e6 : (t.k == 6) = false := by rw [hk]; rfl
 have e7 : (t.k == 7) = false := by rw [hk]; rfl
 have e8 : (t.k == 8) = true := by rw [hk]; rfl
 have HX : Hid (erT (n + 1) t = (t.l.map (erT n)).sum) := by show _ = _; rw [erT, hk]; simp [prB]
 have hln : ln = t.l.length := by
   obtain ⟨p, c, h1, _⟩ := hL.form
   cases h1; rfl
 have HI : Hid (IsL W P (.slice pp ln cl) t.l) := hL
 have HLN : Hid (ln = t.l.length) := hln
 have HN : Hid (erT (n + 1) t ≤ 100000) := hn
 have HIH : Hid (∀ x ∈ t.l, ErC n x) := ih
 have hl2 : ln ≤ 100000 := by omega
 clear hL hn hln hk ih hl
 go_enter Try.func24, Try.ntmps24
 go_wp2_with fail
 go_loopw [3, 4] (fun m iv wr => ∃ j : Nat, j ≤ ln ∧ iv = .int .i64 (j : Int) ∧ m = .int .i64 ((((t.l.take j).map (erT n)).sum : Nat) : Int) ∧ BlkX wr W.heap.size t (.slice pp ln cl) ∧ Ext W wr) (fun _ iv _ => ln - (intOf iv).toNat)
 case atStart => exact ⟨0, Nat.zero_le _, rfl, rfl, (blk13_top rfl (Ext.refl _)), (Ext.refl _).alloc _⟩
 case round =>
   obtain ⟨j, hj, rfl, rfl, hB, hE⟩ := hrel
   obtain ⟨s, hs⟩ : ∃ s, ((t.l.take j).map (erT n)).sum = s := ⟨_, rfl⟩
   have HRS : Hid (((t.l.take j).map (erT n)).sum = s) := hs
   rw [hs]
   have HS : Hid (BlkX wr W.heap.size t (.slice pp ln cl) ∧ Ext W wr) := ⟨hB, hE⟩
   obtain ⟨qb, ⟨lb0, lb1, lb2, lb3, lb4, lb5, lb6, lb7, lb8, lb9, lb10, lb11, lb12⟩, gb0, gb1, gb2, gb3, gb4, gb5, gb6, gb7, gb8, gb9, gb10, gb11, gb12⟩ := hB
   clear hE hs
   by_cases hlt : j < ln
   · have hltI : (j : Int) < (ln : Int) := by omega
     obtain ⟨gb, off, x, lv, hpp, hx1, hA1, hgb0, hA2, hLx, hce0⟩ := HI.out.at (i := j) (by rw [← HLN.out]; exact hlt)
     have hce : ∀ i u, (cellsT x lv)[i]? = some u → wr.cell? ⟨gb, off + j * 13 + i, none⟩ = some u := fun i u hu => (HS.out.2.cell.1 gb _ hgb0).trans (hce0 i u hu)
     have hgb : gb < wr.heap.size := Nat.lt_of_lt_of_le hgb0 HS.out.2.size
     clear hA1 hA2 hce0 hgb0
     cases hpp
     obtain ⟨pp, cl', hlv, hcl⟩ := hLx.form
     obtain ⟨ln', hln'⟩ : ∃ ln', x.l.length = ln' := ⟨_, rfl⟩
     rw [hln'] at hlv
     subst hlv
     have HX1 : Hid (t.l[j]? = some x) := hx1
     have hle : s + erT n x ≤ 100000 := by
       have h1 := HN.out
       rw [HX.out] at h1
       have h2 := sumE_le (erT n) t.l j x hx1
       rw [HRS.out] at h2
       omega
     have HC : Hid (∀ V, Ext wr V → Calls Try.prog 24 #[.agg #[.int .i64 x.k, .int .i64 x.n, .string (bs x.s), .int .i64 x.e, .int .i64 x.r.1, .int .i64 x.r.2.1, .bool x.r.2.2.1, .bool x.r.2.2.2, .int .i64 x.q.1, .int .i64 x.q.2.1, .bool x.q.2.2.1, .bool x.q.2.2.2, .slice pp ln' cl']] V fun e w' => e = .returned (.int .i64 (erT n x : Int)) ∧ Ext V w') := fun V e => HIH.out x (List.mem_of_getElem? hx1) V P pp ln' cl' (hLx.ext (HS.out.2.trans e)) (by omega)
     have d0 : wr.cell? ⟨gb, off + j * 13, none⟩ = some (.int .i64 x.k) := hce 0 _ rfl
     have d1 : wr.cell? ⟨gb, off + j * 13 + 1, none⟩ = some (.int .i64 x.n) := hce 1 _ rfl
     have d2 : wr.cell? ⟨gb, off + j * 13 + 2, none⟩ = some (.string (bs x.s)) := hce 2 _ rfl
     have d3 : wr.cell? ⟨gb, off + j * 13 + 3, none⟩ = some (.int .i64 x.e) := hce 3 _ rfl
     have d4 : wr.cell? ⟨gb, off + j * 13 + 4, none⟩ = some (.int .i64 x.r.1) := hce 4 _ rfl
     have d5 : wr.cell? ⟨gb, off + j * 13 + 5, none⟩ = some (.int .i64 x.r.2.1) := hce 5 _ rfl
     have d6 : wr.cell? ⟨gb, off + j * 13 + 6, none⟩ = some (.bool x.r.2.2.1) := hce 6 _ rfl
     have d7 : wr.cell? ⟨gb, off + j * 13 + 7, none⟩ = some (.bool x.r.2.2.2) := hce 7 _ rfl
     have d8 : wr.cell? ⟨gb, off + j * 13 + 8, none⟩ = some (.int .i64 x.q.1) := hce 8 _ rfl
     have d9 : wr.cell? ⟨gb, off + j * 13 + 9, none⟩ = some (.int .i64 x.q.2.1) := hce 9 _ rfl
     have d10 : wr.cell? ⟨gb, off + j * 13 + 10, none⟩ = some (.bool x.q.2.2.1) := hce 10 _ rfl
     have d11 : wr.cell? ⟨gb, off + j * 13 + 11, none⟩ = some (.bool x.q.2.2.2) := hce 11 _ rfl
     have d12 : wr.cell? ⟨gb, off + j * 13 + 12, none⟩ = some (.slice pp ln' cl') := hce 12 _ rfl
     clear hx1 hLx hce hcl hln'
     go_wp2_with fail
     refine (HC.out _ (Ext.refl _)).mono ?_
     rintro e w3 ⟨rfl, E3⟩
     obtain ⟨m, hm⟩ : ∃ m, erT n x = m := ⟨_, rfl⟩
     have HM : Hid (erT n x = m) := hm
     rw [hm] at hle ⊢
     have HS3 : Hid (BlkX w3 W.heap.size t (.slice (some ⟨gb, off, none⟩) ln cl) ∧ Ext W w3) := ⟨HS.out.1.ext E3, HS.out.2.trans E3⟩
     clear E3 hm HC qb lb0 lb1 lb2 lb3 lb4 lb5 lb6 lb7 lb8 lb9 lb10 lb11 lb12 gb0 gb1 gb2 gb3 gb4 gb5 gb6 gb7 gb8 gb9 gb10 gb11 gb12 d0 d1 d2 d3 d4 d5 d6 d7 d8 d9 d10 d11 d12
     go_wp2_with fail
     go_roundw
     case rel =>
       refine ⟨j + 1, by omega, by go_num, ?_, HS3.out.1, HS3.out.2⟩
       rw [sumE_take _ _ _ _ HX1.out, HRS.out, HM.out]
       go_num
     case measure => show ln - ((j : Int) + 1).toNat < ln - ((j : Int)).toNat; omega
   · have hltI : ¬ (j : Int) < (ln : Int) := by omega
     have hjl : j = ln := by omega
     have HE : Hid (erT (n + 1) t = s) := by
       have h1 := HRS.out
       rw [hjl, HLN.out, List.take_length] at h1
       show _ = _
       rw [HX.out]; exact h1
     clear hlt hjl
     go_wp2_with fail
     go_ret
     rw [HE.out]
     exact ⟨rfl, HS.out.2⟩
theorem errs_any (n : Nat) : ∀ t : T, Hr n t → ErC n t := by
 induction n with
 | zero => intro t h; cases h
 | succ n ih =>
   intro t hr
   by_cases h3 : t.k = 3
   · exact errs_3 n t h3
   by_cases h6 : t.k = 6
   · exact errs_6 n t h6 hr.1 (fun x hx => ih x (hr.2 x hx))
   by_cases h7 : t.k = 7
   · exact errs_7 n t h7 hr.1 (fun x hx => ih x (hr.2 x hx))
   by_cases h8 : t.k = 8
   · exact errs_8 n t h8 hr.1 (fun x hx => ih x (hr.2 x hx))
   exact errs_0 n t h3 h6 h7 h8

open Go.RowKit
set_option maxHeartbeats 2000000

theorem sum_le_map (f g : T → Nat) (l : List T) (h : ∀ x ∈ l, f x ≤ g x) : (l.map f).sum ≤ (l.map g).sum := by
 induction l with
 | nil => exact Nat.le_refl _
 | cons a l ih =>
   have h1 := ih (fun x hx => h x (List.mem_cons_of_mem _ hx))
   have h0 := h a List.mem_cons_self
   simp only [List.map_cons, List.sum_cons]
   omega
theorem er_len (n : Nat) : ∀ t : T, erT n t ≤ szT n t := by
 induction n with
 | zero => intro t; exact Nat.zero_le _
 | succ n ih =>
   intro t
   rw [erT, szT]
   have := sum_le_map (erT n) (szT n) t.l (fun x _ => ih x)
   split <;> split <;> omega
theorem flatR_ij (l : List Rc) (i j : Nat) (q : Rc) (u : Value) (hi : l[i]? = some q) (hj : (cellsR q)[j]? = some u) : (flatR l)[i * 4 + j]? = some u := by
 induction l generalizing i with
 | nil => cases hi
 | cons a l ih =>
   have e : flatR (a :: l) = cellsR a ++ flatR l := rfl
   rw [e]
   have hj4 : j < 4 := (List.getElem?_eq_some_iff.mp hj).1
   cases i with
   | zero =>
     simp only [List.getElem?_cons_zero, Option.some.injEq] at hi
     subst hi
     rw [List.getElem?_append_left (by show 0 * 4 + j < 4; omega), Nat.zero_mul, Nat.zero_add]; exact hj
   | succ i =>
     simp only [List.getElem?_cons_succ] at hi
     rw [List.getElem?_append_right (by show 4 ≤ (i + 1) * 4 + j; omega)]
     have : (i + 1) * 4 + j - (cellsR a).length = i * 4 + j := by show (i + 1) * 4 + j - 4 = _; omega
     rw [this]; exact ih i hi
/-- A rectangle of a list. -/
theorem RdR.at {w : World} {p : Option Addr} {n c : Nat} {l : List Rc} (h : RdR w (.slice p n c) l) {i : Nat} (hi : i < l.length) :
   ∃ g q, p = some ⟨g, 0, none⟩ ∧ n = l.length ∧ l[i]? = some q ∧ g < w.heap.size ∧ ∀ j u, (cellsR q)[j]? = some u → w.cell? ⟨g, i * 4 + j, none⟩ = some u := by
 rcases h with ⟨_, h⟩ | ⟨g, c', h1, h2, h3⟩
 · rw [h] at hi; simp at hi
 · cases h1
   exact ⟨g, l[i], rfl, rfl, List.getElem?_eq_getElem hi, h2, fun j u hu => h3 _ u (flatR_ij l i j _ u (List.getElem?_eq_getElem hi) hu)⟩
theorem RdR.form {w : World} {v : Value} {l : List Rc} (h : RdR w v l) : ∃ p c, v = .slice p l.length c := by
 rcases h with ⟨h, h0⟩ | ⟨g, c, h, _⟩
 · rw [h, h0]; exact ⟨_, _, rfl⟩
 · exact ⟨_, _, h⟩
theorem RrQ.rd {W w : World} {l : List Rc} {e : Ending} (h : RrQ W l e w) : ∃ p c, e = .returned (.slice p l.length c) ∧ RdR w (.slice p l.length c) l ∧ Ext W w := by
 obtain ⟨g, c, h1, h2, h3, h4⟩ := h
 exact ⟨_, _, h1, .inr ⟨g, c, rfl, h2, h3⟩, h4⟩
end Go.Proofs.Ytcggiljlilbdfaa
