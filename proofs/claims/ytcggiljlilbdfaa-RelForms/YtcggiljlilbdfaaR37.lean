/-
 The document's answer for layer 10: a formula seen from its place, and back.
 Formulas that are filled, seen from their places, and back: plain mathematics, no program in sight.
 The moves of a bar where more than one operation may come up. No program in sight.
 What is known of a block or a list, hidden, lasts.
-/
import Derived.Test.YtcggiljlilbdfaaR30
import Derived.Test.YtcggiljlilbdfaaR36
import Derived.Test.YtcggiljlilbdfaaR21
namespace Go.Proofs.Ytcggiljlilbdfaa
open Go.RowKit
set_option maxHeartbeats 6000000

set_option maxRecDepth 100000 in
theorem rmoved_any (r : Rf) (dr dc : Int) (W : World) :
   Calls Try.prog 43 #[.agg #[.int .i64 r.1, .int .i64 r.2.1, .bool r.2.2.1, .bool r.2.2.2], .int .i64 dr, .int .i64 dc] W fun e w' => e = .returned (.agg #[.int .i64 (mvF dr dc r).1, .int .i64 (mvF dr dc r).2.1, .bool (mvF dr dc r).2.2.1, .bool (mvF dr dc r).2.2.2]) ∧ Ext W w' := by
 obtain ⟨a, b, x, y⟩ := r
 cases x <;> cases y
 · go_enter Try.func43, Try.ntmps43
   go_wp2_with fail
   exact bodyPost_ret (v := .agg #[.int .i64 (wrap64 (a + dr)), .int .i64 (wrap64 (b + dc)), .bool false, .bool false]) (by simp [results, Try.results43, go_sem]) rfl ⟨rfl, ((Ext.refl _).alloc _).alloc _⟩
 · go_enter Try.func43, Try.ntmps43
   go_wp2_with fail
   exact bodyPost_ret (v := .agg #[.int .i64 (wrap64 (a + dr)), .int .i64 (b), .bool false, .bool true]) (by simp [results, Try.results43, go_sem]) rfl ⟨rfl, ((Ext.refl _).alloc _).alloc _⟩
 · go_enter Try.func43, Try.ntmps43
   go_wp2_with fail
   exact bodyPost_ret (v := .agg #[.int .i64 (a), .int .i64 (wrap64 (b + dc)), .bool true, .bool false]) (by simp [results, Try.results43, go_sem]) rfl ⟨rfl, ((Ext.refl _).alloc _).alloc _⟩
 · go_enter Try.func43, Try.ntmps43
   go_wp2_with fail
   exact bodyPost_ret (v := .agg #[.int .i64 (a), .int .i64 (b), .bool true, .bool true]) (by simp [results, Try.results43, go_sem]) rfl ⟨rfl, ((Ext.refl _).alloc _).alloc _⟩
theorem rparts10_any (k : Int) (w : World) : Calls Try.prog 44 #[.int .i64 k] w fun e w' => e = .returned (.bool (prB k)) ∧ w' = w := by
 by_cases k6 : k = 6
 · have e6 : (k == 6) = true := by rw [k6]; rfl
   have HX : Hid (prB k = true) := by show _ = _; unfold prB; rw [k6]; rfl
   clear k6
   go_enter Try.func44, Try.ntmps44
   go_wp2_with fail
   go_ret
   exact ⟨ret_bool HX.out.symm, rfl⟩
 by_cases k7 : k = 7
 · have e6 : (k == 6) = false := by simpa using k6
   have e7 : (k == 7) = true := by rw [k7]; rfl
   have HX : Hid (prB k = true) := by show _ = _; unfold prB; rw [k7]; rfl
   clear k6 k7
   go_enter Try.func44, Try.ntmps44
   go_wp2_with fail
   go_ret
   exact ⟨ret_bool HX.out.symm, rfl⟩
 · have e6 : (k == 6) = false := by simpa using k6
   have e7 : (k == 7) = false := by simpa using k7
   have HX : Hid (prB k = (k == 8)) := by show _ = _; unfold prB; rw [Bool.eq_iff_iff]; simp [k6, k7]
   clear k6 k7
   go_enter Try.func44, Try.ntmps44
   go_wp2_with fail
   go_ret
   exact ⟨ret_bool HX.out.symm, rfl⟩
/-- What the document's functions of trees answer: a tree whose lists lie where those of the argument did, or in new memory. -/
def DcQ (P : Nat → Prop) (w : World) (t : T) (e : Ending) (w' : World) : Prop := ∃ p l c, e = .returned (aggX t (.slice p l c)) ∧ IsL w' (fun k => P k ∨ w.heap.size ≤ k) (.slice p l c) t.l ∧ Ext w w'
theorem OwY.isL {w : World} {base : Nat} {P : Nat → Prop} {v : Value} {ps : List (T × Value)} (h : OwY w base v ps) (hb : ∀ k, base ≤ k → P k) (hx : ∀ p ∈ ps, IsL w P p.2 p.1.l) : IsL w P v (ps.map Prod.fst) := by
 obtain ⟨_, h1⟩ := h
 rcases h1 with ⟨h1, h0⟩ | ⟨g, cap, cur, h1, h3, h4, h5, h6, h7, h8⟩
 · have : ps = [] := List.eq_nil_of_length_eq_zero h0
   subst this h1
   exact .nil
 · subst h1
   refine .mk g 0 cap ps.length _ (fun i => match ps[i]? with | some p => p.2 | none => .slice none 0 0) (by simp) h5 (hb g h3) (heap_lt h4) ?_ ?_
   · intro i t j u hi hj
     rw [List.getElem?_map, Option.map_eq_some_iff] at hi
     obtain ⟨p, hp, rfl⟩ := hi
     simp only [hp] at hj
     have k := flatX_at ps i j p u hp hj
     have hj13 : i * 13 + j < (flatX ps).length := (List.getElem?_eq_some_iff.mp k).1
     rw [flatX_length] at hj13
     rw [cell_of_row w g _ cur _ (0, 0) h4, Nat.zero_add, ← Array.getElem?_toList]
     rw [← h8, List.getElem?_take, if_pos (by omega)] at k
     exact k
   · intro i t hi
     rw [List.getElem?_map, Option.map_eq_some_iff] at hi
     obtain ⟨p, hp, rfl⟩ := hi
     simp only [hp]
     exact hx p (List.mem_of_getElem? hp)
theorem OwY.ext {w w' : World} {base : Nat} {v : Value} {ps : List (T × Value)} (h : OwY w base v ps) (e : Ext w w') : OwY w' base v ps := by
 refine ⟨h.1, ?_⟩
 rcases h.2 with h2 | ⟨g, cap, cur, h1, h2, h3, h4⟩
 · exact .inl h2
 · exact .inr ⟨g, cap, cur, h1, h2, (e.block g (heap_lt h3)).trans h3, h4⟩
theorem OwY.zero {W W' : World} {base g : Nat} (hW : W' = W.alloc (.cells #[] 26)) (hg : g = W.heap.size) (hb : base ≤ g) : OwY W' base (.slice (some ⟨g, 0, none⟩) 0 0) [] := (OwX.zero hW hg hb).1
theorem ext_grownY {w W W' : World} {base : Nat} {v : Value} {ps : List (T × Value)} (h : W.grownBy W' v.ownBlock) (hB : OwY W base v ps) (hE : Ext w W) (hb : w.heap.size ≤ base) : Ext w W' :=
 ⟨h.os.trans hE.os, h.tape.trans hE.tape, h.output.trans hE.output, Nat.le_trans hE.size h.size, fun k hk =>
   (h.block k (Nat.lt_of_lt_of_le hk hE.size) (fun e => hB.far (Nat.lt_of_lt_of_le hk hb) e.symm)).trans (hE.block k hk)⟩
set_option maxRecDepth 100000 in
theorem rback_0 (n : Nat) (t : T) (row col : Int) (hk4 : t.k ≠ 4) (hk5 : t.k ≠ 5) (hp : ¬ (t.k = 6 ∨ t.k = 7 ∨ t.k = 8)) (P : Nat → Prop) (W : World) (pp : Option Addr) (ln cl : Nat) (hL : IsL W P (.slice pp ln cl) t.l) :
   Calls Try.prog 18 #[.agg #[.int .i64 t.k, .int .i64 t.n, .string (bs t.s), .int .i64 t.e, .int .i64 t.r.1, .int .i64 t.r.2.1, .bool t.r.2.2.1, .bool t.r.2.2.2, .int .i64 t.q.1, .int .i64 t.q.2.1, .bool t.q.2.2.1, .bool t.q.2.2.2, .slice pp ln cl], .int .i64 row, .int .i64 col] W (DcQ P W (mpT (mvE row col) (n + 1) t)) := by
 have HX : Hid (mpT (mvE row col) (n + 1) t = mvE row col t) := by
   show _ = _
   have hp : prB t.k = false := by unfold prB; simp; omega
   rw [mpT, hp]
   simp only [Bool.false_eq_true, if_false, List.map_id, wL_self]
 have hmv : mvE row col t = t := by unfold mvE; rw [if_neg hk4, if_neg hk5]
 have HX : Hid (mpT (mvE row col) (n + 1) t = t) := HX.out.trans hmv
 have HI : Hid (IsL W P (.slice pp ln cl) t.l) := hL
 have e4 : (t.k == 4) = false := by simpa using hk4
 have e5 : (t.k == 5) = false := by simpa using hk5
 have c1 := fun V => rparts10_any t.k V
 have hpb : prB t.k = false := by unfold prB; simpa using hp
 rw [hpb] at c1
 clear hk4 hk5 hp hmv hpb hL
 go_enter Try.func18, Try.ntmps18
 go_wp2_with fail
 refine (c1 _).mono ?_
 rintro e w1 ⟨rfl, rfl⟩
 go_wp2_with fail
 rw [HX.out]
 exact bodyPost_ret (v := aggX t (.slice pp ln cl)) (by simp [results, Try.results18, go_sem, aggX]) rfl ⟨pp, ln, cl, rfl, (HI.out.mono (fun k hk _ => .inl hk)).ext (((Ext.refl _).alloc _).alloc _), ((Ext.refl _).alloc _).alloc _⟩
set_option maxRecDepth 100000 in
theorem rback_4 (n : Nat) (t : T) (row col : Int) (hk : t.k = 4) (P : Nat → Prop) (W : World) (pp : Option Addr) (ln cl : Nat) (hL : IsL W P (.slice pp ln cl) t.l) :
   Calls Try.prog 18 #[.agg #[.int .i64 t.k, .int .i64 t.n, .string (bs t.s), .int .i64 t.e, .int .i64 t.r.1, .int .i64 t.r.2.1, .bool t.r.2.2.1, .bool t.r.2.2.2, .int .i64 t.q.1, .int .i64 t.q.2.1, .bool t.q.2.2.1, .bool t.q.2.2.2, .slice pp ln cl], .int .i64 row, .int .i64 col] W (DcQ P W (mpT (mvE row col) (n + 1) t)) := by
 have HX : Hid (mpT (mvE row col) (n + 1) t = mvE row col t) := by
   show _ = _
   have hp : prB t.k = false := by unfold prB; rw [hk]; rfl
   rw [mpT, hp]
   simp only [Bool.false_eq_true, if_false, List.map_id, wL_self]
 have hmv : mvE row col t = t.wR (mvF row col t.r) := by unfold mvE; rw [if_pos hk]
 have HX : Hid (mpT (mvE row col) (n + 1) t = t.wR (mvF row col t.r)) := HX.out.trans hmv
 have HI : Hid (IsL W P (.slice pp ln cl) t.l) := hL
 have e4 : (t.k == 4) = true := by rw [hk]; rfl
 have e5 : (t.k == 5) = false := by rw [hk]; rfl
 have c0 := fun V => rparts10_any t.k V
 have hpb : prB t.k = false := by unfold prB; rw [hk]; rfl
 rw [hpb] at c0
 have c1 := fun V => rmoved_any t.r row col V
 have c2 := fun V => rmoved_any t.q row col V
 obtain ⟨r, hr⟩ : ∃ r, mvF row col t.r = r := ⟨_, rfl⟩
 obtain ⟨q, hq⟩ : ∃ q, mvF row col t.q = q := ⟨_, rfl⟩
 rw [hr] at c1 HX
 rw [hq] at c2
 clear hk hmv hpb hL hr hq
 go_enter Try.func18, Try.ntmps18
 go_wp2_with fail
 refine (c1 _).mono ?_
 rintro e w1 ⟨rfl, E1⟩
 have HB : Hid (BlkX w1 W.heap.size t (.slice pp ln cl) ∧ BlkX w1 (W.heap.size + 1) tz (.slice none 0 0) ∧ Ext W w1) := ⟨(blk13_top rfl ((Ext.refl _).alloc _)).ext E1, (BlkX.top (by simp) (Ext.refl _)).ext E1, (((Ext.refl _).alloc _).alloc _).trans E1⟩
 have hz : W.heap.size + 1 < w1.heap.size := HB.out.2.1.1
 have HB0 := HB.out.1
 obtain ⟨qa, ⟨la0, la1, la2, la3, la4, la5, la6, la7, la8, la9, la10, la11, la12⟩, ga0, ga1, ga2, ga3, ga4, ga5, ga6, ga7, ga8, ga9, ga10, ga11, ga12⟩ := HB0
 have HB1 := HB.out.2.1
 obtain ⟨qc, ⟨lc0, lc1, lc2, lc3, lc4, lc5, lc6, lc7, lc8, lc9, lc10, lc11, lc12⟩, gc0, gc1, gc2, gc3, gc4, gc5, gc6, gc7, gc8, gc9, gc10, gc11, gc12⟩ := HB1
 clear E1 c1
 go_wp2_with fail
 refine (c0 _).mono ?_
 rintro e w4 ⟨rfl, rfl⟩
 go_wp2_with fail
 show bodyPost Try.prog _ _ _ _ (putX ((((w1.setCell ⟨W.heap.size, 4, none⟩ (.int .i64 r.1)).setCell ⟨W.heap.size, 5, none⟩ (.int .i64 r.2.1)).setCell ⟨W.heap.size, 6, none⟩ (.bool r.2.2.1)).setCell ⟨W.heap.size, 7, none⟩ (.bool r.2.2.2)) (W.heap.size + 1) (t.wR r) (.slice pp ln cl))
 rw [HX.out]
 have E4 : Ext W ((((w1.setCell ⟨W.heap.size, 4, none⟩ (.int .i64 r.1)).setCell ⟨W.heap.size, 5, none⟩ (.int .i64 r.2.1)).setCell ⟨W.heap.size, 6, none⟩ (.bool r.2.2.1)).setCell ⟨W.heap.size, 7, none⟩ (.bool r.2.2.2)) := ((((HB.out.2.2).setCell (p := ⟨W.heap.size, 4, none⟩) (Nat.le_refl _) _).setCell (p := ⟨W.heap.size, 5, none⟩) (Nat.le_refl _) _).setCell (p := ⟨W.heap.size, 6, none⟩) (Nat.le_refl _) _).setCell (p := ⟨W.heap.size, 7, none⟩) (Nat.le_refl _) _
 have B4 : BlkX ((((w1.setCell ⟨W.heap.size, 4, none⟩ (.int .i64 r.1)).setCell ⟨W.heap.size, 5, none⟩ (.int .i64 r.2.1)).setCell ⟨W.heap.size, 6, none⟩ (.bool r.2.2.1)).setCell ⟨W.heap.size, 7, none⟩ (.bool r.2.2.2)) (W.heap.size + 1) tz (.slice none 0 0) := Blk13.far1 (Blk13.far1 (Blk13.far1 (Blk13.far1 (HB.out.2.1) (by omega) 4 _) (by omega) 5 _) (by omega) 6 _) (by omega) 7 _
 generalize (((w1.setCell ⟨W.heap.size, 4, none⟩ (.int .i64 r.1)).setCell ⟨W.heap.size, 5, none⟩ (.int .i64 r.2.1)).setCell ⟨W.heap.size, 6, none⟩ (.bool r.2.2.1)).setCell ⟨W.heap.size, 7, none⟩ (.bool r.2.2.2) = w5 at *
 exact endR (B4.put (t.wR r) (.slice pp ln cl)) rfl ⟨pp, ln, cl, rfl, (HI.out.mono (P' := fun k => k < W.heap.size ∧ P k) (fun k hk hs => ⟨hs, hk⟩)).keep (putX_E E4 (by omega) _ _).sz (fun k hk hs => (putX_E E4 (by omega) (t.wR r) (.slice pp ln cl)).block k hs) (fun k hk _ => .inl hk.2), putX_E E4 (by omega) _ _⟩ (fun h0 h1 h2 h3 h4 h5 h6 h7 h8 h9 h10 h11 h12 => by simp [results, Try.results18, go_sem, h0, h1, h2, h3, h4, h5, h6, h7, h8, h9, h10, h11, h12, aggX])
set_option maxRecDepth 100000 in
theorem rback_5 (n : Nat) (t : T) (row col : Int) (hk : t.k = 5) (P : Nat → Prop) (W : World) (pp : Option Addr) (ln cl : Nat) (hL : IsL W P (.slice pp ln cl) t.l) :
   Calls Try.prog 18 #[.agg #[.int .i64 t.k, .int .i64 t.n, .string (bs t.s), .int .i64 t.e, .int .i64 t.r.1, .int .i64 t.r.2.1, .bool t.r.2.2.1, .bool t.r.2.2.2, .int .i64 t.q.1, .int .i64 t.q.2.1, .bool t.q.2.2.1, .bool t.q.2.2.2, .slice pp ln cl], .int .i64 row, .int .i64 col] W (DcQ P W (mpT (mvE row col) (n + 1) t)) := by
 have HX : Hid (mpT (mvE row col) (n + 1) t = mvE row col t) := by
   show _ = _
   have hp : prB t.k = false := by unfold prB; rw [hk]; rfl
   rw [mpT, hp]
   simp only [Bool.false_eq_true, if_false, List.map_id, wL_self]
 have hmv : mvE row col t = t.wRQ (mvF row col t.r) (mvF row col t.q) := by unfold mvE; rw [if_neg (by omega), if_pos hk]
 have HX : Hid (mpT (mvE row col) (n + 1) t = t.wRQ (mvF row col t.r) (mvF row col t.q)) := HX.out.trans hmv
 have HI : Hid (IsL W P (.slice pp ln cl) t.l) := hL
 have e4 : (t.k == 4) = false := by rw [hk]; rfl
 have e5 : (t.k == 5) = true := by rw [hk]; rfl
 have c0 := fun V => rparts10_any t.k V
 have hpb : prB t.k = false := by unfold prB; rw [hk]; rfl
 rw [hpb] at c0
 have c1 := fun V => rmoved_any t.r row col V
 have c2 := fun V => rmoved_any t.q row col V
 obtain ⟨r, hr⟩ : ∃ r, mvF row col t.r = r := ⟨_, rfl⟩
 obtain ⟨q, hq⟩ : ∃ q, mvF row col t.q = q := ⟨_, rfl⟩
 rw [hr] at c1 HX
 rw [hq] at c2 HX
 clear hk hmv hpb hL hr hq
 go_enter Try.func18, Try.ntmps18
 go_wp2_with fail
 refine (c1 _).mono ?_
 rintro e w1 ⟨rfl, E1⟩
 have HB : Hid (BlkX w1 W.heap.size t (.slice pp ln cl) ∧ BlkX w1 (W.heap.size + 1) tz (.slice none 0 0) ∧ Ext W w1) := ⟨(blk13_top rfl ((Ext.refl _).alloc _)).ext E1, (BlkX.top (by simp) (Ext.refl _)).ext E1, (((Ext.refl _).alloc _).alloc _).trans E1⟩
 have hz : W.heap.size + 1 < w1.heap.size := HB.out.2.1.1
 have HB0 := HB.out.1
 obtain ⟨qa, ⟨la0, la1, la2, la3, la4, la5, la6, la7, la8, la9, la10, la11, la12⟩, ga0, ga1, ga2, ga3, ga4, ga5, ga6, ga7, ga8, ga9, ga10, ga11, ga12⟩ := HB0
 have HB1 := HB.out.2.1
 obtain ⟨qc, ⟨lc0, lc1, lc2, lc3, lc4, lc5, lc6, lc7, lc8, lc9, lc10, lc11, lc12⟩, gc0, gc1, gc2, gc3, gc4, gc5, gc6, gc7, gc8, gc9, gc10, gc11, gc12⟩ := HB1
 clear E1 c1
 go_wp2_with fail
 have E2 : Ext W ((((w1.setCell ⟨W.heap.size, 4, none⟩ (.int .i64 r.1)).setCell ⟨W.heap.size, 5, none⟩ (.int .i64 r.2.1)).setCell ⟨W.heap.size, 6, none⟩ (.bool r.2.2.1)).setCell ⟨W.heap.size, 7, none⟩ (.bool r.2.2.2)) := ((((HB.out.2.2).setCell (p := ⟨W.heap.size, 4, none⟩) (Nat.le_refl _) _).setCell (p := ⟨W.heap.size, 5, none⟩) (Nat.le_refl _) _).setCell (p := ⟨W.heap.size, 6, none⟩) (Nat.le_refl _) _).setCell (p := ⟨W.heap.size, 7, none⟩) (Nat.le_refl _) _
 have B2 : BlkX ((((w1.setCell ⟨W.heap.size, 4, none⟩ (.int .i64 r.1)).setCell ⟨W.heap.size, 5, none⟩ (.int .i64 r.2.1)).setCell ⟨W.heap.size, 6, none⟩ (.bool r.2.2.1)).setCell ⟨W.heap.size, 7, none⟩ (.bool r.2.2.2)) W.heap.size (t.wR r) (.slice pp ln cl) := Blk13.put7 (Blk13.put6 (Blk13.put5 (Blk13.put4 HB.out.1 _) _) _) _
 have B3 : BlkX ((((w1.setCell ⟨W.heap.size, 4, none⟩ (.int .i64 r.1)).setCell ⟨W.heap.size, 5, none⟩ (.int .i64 r.2.1)).setCell ⟨W.heap.size, 6, none⟩ (.bool r.2.2.1)).setCell ⟨W.heap.size, 7, none⟩ (.bool r.2.2.2)) (W.heap.size + 1) tz (.slice none 0 0) := Blk13.far1 (Blk13.far1 (Blk13.far1 (Blk13.far1 (HB.out.2.1) (by omega) 4 _) (by omega) 5 _) (by omega) 6 _) (by omega) 7 _
 generalize (((w1.setCell ⟨W.heap.size, 4, none⟩ (.int .i64 r.1)).setCell ⟨W.heap.size, 5, none⟩ (.int .i64 r.2.1)).setCell ⟨W.heap.size, 6, none⟩ (.bool r.2.2.1)).setCell ⟨W.heap.size, 7, none⟩ (.bool r.2.2.2) = w2 at *
 have H2 : Hid (Ext W w2 ∧ BlkX w2 W.heap.size (t.wR r) (.slice pp ln cl) ∧ BlkX w2 (W.heap.size + 1) tz (.slice none 0 0)) := ⟨E2, B2, B3⟩
 clear E2 B2 B3 qa la0 la1 la2 la3 la4 la5 la6 la7 la8 la9 la10 la11 la12 ga0 ga1 ga2 ga3 ga4 ga5 ga6 ga7 ga8 ga9 ga10 ga11 ga12 qc lc0 lc1 lc2 lc3 lc4 lc5 lc6 lc7 lc8 lc9 lc10 lc11 lc12 gc0 gc1 gc2 gc3 gc4 gc5 gc6 gc7 gc8 gc9 gc10 gc11 gc12
 refine (c2 _).mono ?_
 rintro e w3 ⟨rfl, E3⟩
 have H3 : Hid (Ext W w3 ∧ BlkX w3 W.heap.size (t.wR r) (.slice pp ln cl) ∧ BlkX w3 (W.heap.size + 1) tz (.slice none 0 0)) := ⟨H2.out.1.trans E3, H2.out.2.1.ext E3, H2.out.2.2.ext E3⟩
 have hz3 : W.heap.size + 1 < w3.heap.size := H3.out.2.2.1
 have HB2 := H3.out.2.1
 obtain ⟨qa, ⟨la0, la1, la2, la3, la4, la5, la6, la7, la8, la9, la10, la11, la12⟩, ga0, ga1, ga2, ga3, ga4, ga5, ga6, ga7, ga8, ga9, ga10, ga11, ga12⟩ := HB2
 have HB3 := H3.out.2.2
 obtain ⟨qc, ⟨lc0, lc1, lc2, lc3, lc4, lc5, lc6, lc7, lc8, lc9, lc10, lc11, lc12⟩, gc0, gc1, gc2, gc3, gc4, gc5, gc6, gc7, gc8, gc9, gc10, gc11, gc12⟩ := HB3
 clear E3 c2
 go_wp2_with fail
 refine (c0 _).mono ?_
 rintro e w4 ⟨rfl, rfl⟩
 go_wp2_with fail
 show bodyPost Try.prog _ _ _ _ (putX ((((w3.setCell ⟨W.heap.size, 8, none⟩ (.int .i64 q.1)).setCell ⟨W.heap.size, 9, none⟩ (.int .i64 q.2.1)).setCell ⟨W.heap.size, 10, none⟩ (.bool q.2.2.1)).setCell ⟨W.heap.size, 11, none⟩ (.bool q.2.2.2)) (W.heap.size + 1) (t.wRQ r q) (.slice pp ln cl))
 rw [HX.out]
 have E4 : Ext W ((((w3.setCell ⟨W.heap.size, 8, none⟩ (.int .i64 q.1)).setCell ⟨W.heap.size, 9, none⟩ (.int .i64 q.2.1)).setCell ⟨W.heap.size, 10, none⟩ (.bool q.2.2.1)).setCell ⟨W.heap.size, 11, none⟩ (.bool q.2.2.2)) := ((((H3.out.1).setCell (p := ⟨W.heap.size, 8, none⟩) (Nat.le_refl _) _).setCell (p := ⟨W.heap.size, 9, none⟩) (Nat.le_refl _) _).setCell (p := ⟨W.heap.size, 10, none⟩) (Nat.le_refl _) _).setCell (p := ⟨W.heap.size, 11, none⟩) (Nat.le_refl _) _
 have B4 : BlkX ((((w3.setCell ⟨W.heap.size, 8, none⟩ (.int .i64 q.1)).setCell ⟨W.heap.size, 9, none⟩ (.int .i64 q.2.1)).setCell ⟨W.heap.size, 10, none⟩ (.bool q.2.2.1)).setCell ⟨W.heap.size, 11, none⟩ (.bool q.2.2.2)) (W.heap.size + 1) tz (.slice none 0 0) := Blk13.far1 (Blk13.far1 (Blk13.far1 (Blk13.far1 (H3.out.2.2) (by omega) 8 _) (by omega) 9 _) (by omega) 10 _) (by omega) 11 _
 generalize (((w3.setCell ⟨W.heap.size, 8, none⟩ (.int .i64 q.1)).setCell ⟨W.heap.size, 9, none⟩ (.int .i64 q.2.1)).setCell ⟨W.heap.size, 10, none⟩ (.bool q.2.2.1)).setCell ⟨W.heap.size, 11, none⟩ (.bool q.2.2.2) = w5 at *
 exact endR (B4.put (t.wRQ r q) (.slice pp ln cl)) rfl ⟨pp, ln, cl, rfl, (HI.out.mono (P' := fun k => k < W.heap.size ∧ P k) (fun k hk hs => ⟨hs, hk⟩)).keep (putX_E E4 (by omega) _ _).sz (fun k hk hs => (putX_E E4 (by omega) (t.wRQ r q) (.slice pp ln cl)).block k hs) (fun k hk _ => .inl hk.2), putX_E E4 (by omega) _ _⟩ (fun h0 h1 h2 h3 h4 h5 h6 h7 h8 h9 h10 h11 h12 => by simp [results, Try.results18, go_sem, h0, h1, h2, h3, h4, h5, h6, h7, h8, h9, h10, h11, h12, aggX])
set_option maxRecDepth 100000 in
theorem rback_n (n : Nat) (t : T) (row col : Int) (hp : t.k = 6 ∨ t.k = 7 ∨ t.k = 8) (hl : t.l.length ≤ 100000) (ih : ∀ x ∈ t.l, ∀ (P : Nat → Prop) (W : World) (pp : Option Addr) (ln cl : Nat), IsL W P (.slice pp ln cl) x.l → Calls Try.prog 18 #[.agg #[.int .i64 x.k, .int .i64 x.n, .string (bs x.s), .int .i64 x.e, .int .i64 x.r.1, .int .i64 x.r.2.1, .bool x.r.2.2.1, .bool x.r.2.2.2, .int .i64 x.q.1, .int .i64 x.q.2.1, .bool x.q.2.2.1, .bool x.q.2.2.2, .slice pp ln cl], .int .i64 row, .int .i64 col] W (DcQ P W (mpT (mvE row col) n x))) (P : Nat → Prop) (W : World) (pp : Option Addr) (ln cl : Nat) (hL : IsL W P (.slice pp ln cl) t.l) :
   Calls Try.prog 18 #[.agg #[.int .i64 t.k, .int .i64 t.n, .string (bs t.s), .int .i64 t.e, .int .i64 t.r.1, .int .i64 t.r.2.1, .bool t.r.2.2.1, .bool t.r.2.2.2, .int .i64 t.q.1, .int .i64 t.q.2.1, .bool t.q.2.2.1, .bool t.q.2.2.2, .slice pp ln cl], .int .i64 row, .int .i64 col] W (DcQ P W (mpT (mvE row col) (n + 1) t)) := by
 have hpb : prB t.k = true := by unfold prB; simpa using hp
 have HX : Hid (mpT (mvE row col) (n + 1) t = t.wL (t.l.map (mpT (mvE row col) n))) := by
   show _ = _
   rw [mpT, hpb]
   exact by unfold mvE; rw [if_neg (by show ¬ t.k = 4; omega), if_neg (by show ¬ t.k = 5; omega)]; rfl
 have hln : ln = t.l.length := by
   obtain ⟨p, c, h1, _⟩ := hL.form
   cases h1; rfl
 have HI : Hid (IsL W (fun k => P k ∧ k < W.heap.size) (.slice pp ln cl) t.l) := hL.mono (fun k hk hs => ⟨hk, hs⟩)
 have HLN : Hid (ln = t.l.length) := hln
 have HIH : Hid (∀ x ∈ t.l, ∀ (P : Nat → Prop) (W : World) (pp : Option Addr) (ln cl : Nat), IsL W P (.slice pp ln cl) x.l → Calls Try.prog 18 #[.agg #[.int .i64 x.k, .int .i64 x.n, .string (bs x.s), .int .i64 x.e, .int .i64 x.r.1, .int .i64 x.r.2.1, .bool x.r.2.2.1, .bool x.r.2.2.2, .int .i64 x.q.1, .int .i64 x.q.2.1, .bool x.q.2.2.1, .bool x.q.2.2.2, .slice pp ln cl], .int .i64 row, .int .i64 col] W (DcQ P W (mpT (mvE row col) n x))) := ih
 have hl2 : ln ≤ 100000 := by omega
 have c0 := fun V => rparts10_any t.k V
 rw [hpb] at c0
 have e4 : (t.k == 4) = false := by simp; omega
 have e5 : (t.k == 5) = false := by simp; omega
 clear hL hln ih hl hp hpb
 go_enter Try.func18, Try.ntmps18
 go_wp2_with fail
 refine (c0 _).mono ?_
 rintro e wp ⟨rfl, rfl⟩
 clear c0
 go_wp2_with fail
 go_loopw [7, 8] (fun xv iv wr => ∃ (j g cap : Nat) (ps : List (T × Value)), j ≤ ln ∧ xv = .slice (some ⟨g, 0, none⟩) j cap ∧ iv = .int .i64 (j : Int) ∧ ps.length = j ∧ OwY wr (W.heap.size + 1 + 1) (.slice (some ⟨g, 0, none⟩) ps.length cap) ps ∧ (∀ p ∈ ps, IsL wr (fun k => (P k ∧ k < W.heap.size) ∨ (W.heap.size + 1 + 1 ≤ k ∧ k ≠ g)) p.2 p.1.l) ∧ ps.map Prod.fst = (t.l.take j).map (mpT (mvE row col) n) ∧ BlkX wr W.heap.size t (.slice pp ln cl) ∧ BlkX wr (W.heap.size + 1) tz (.slice none 0 0) ∧ Ext W wr) (fun _ iv _ => ln - (intOf iv).toNat)
 case atStart => exact ⟨0, W.heap.size + 1 + 1, 0, [], Nat.zero_le _, rfl, rfl, rfl, OwY.zero rfl (by simp) (Nat.le_refl _), fun p hp => by simp at hp, by simp, blk13_top rfl (((Ext.refl _).alloc _).alloc _), BlkX.top (by simp) ((Ext.refl _).alloc _), (((Ext.refl _).alloc _).alloc _).alloc _⟩
 case round =>
   obtain ⟨j, g, cap, ps, hj, rfl, rfl, hpl, hO, hIs, hps, hB, hB2, hE⟩ := hrel
   have HO : Hid (OwY wr (W.heap.size + 1 + 1) (.slice (some ⟨g, 0, none⟩) ps.length cap) ps ∧ ps.map Prod.fst = (t.l.take j).map (mpT (mvE row col) n) ∧ Ext W wr ∧ ps.length = j ∧ (∀ p ∈ ps, IsL wr (fun k => (P k ∧ k < W.heap.size) ∨ (W.heap.size + 1 + 1 ≤ k ∧ k ≠ g)) p.2 p.1.l)) := ⟨hO, hps, hE, hpl, hIs⟩
   have HB : Hid (BlkX wr W.heap.size t (.slice pp ln cl) ∧ BlkX wr (W.heap.size + 1) tz (.slice none 0 0)) := ⟨hB, hB2⟩
   obtain ⟨qz, ⟨k0, k1, k2, k3, k4, k5, k6, k7, k8, k9, k10, k11, k12⟩, f0, f1, f2, f3, f4, f5, f6, f7, f8, f9, f10, f11, f12⟩ := hB
   have hwr : W.heap.size + 1 < wr.heap.size := hB2.1
   have hgw : g < wr.heap.size ∧ W.heap.size + 1 + 1 ≤ g := by
     rcases hO.2 with ⟨q1, _⟩ | ⟨g', cap', cur, q1, q2, q3, _⟩
     · cases q1
     · cases q1; exact ⟨heap_lt q3, q2⟩
   clear hE hps hO hpl hB2 hIs f0 f1 f2 f3 f4 f5 f6 f7 f8 f9 f10 f11
   by_cases hlt : j < ln
   · have hltI : (j : Int) < (ln : Int) := by omega
     have hI := HI.out.ext HO.out.2.2.1
     obtain ⟨gb, off, x, lv, hpp, hx1, hA1, hgb, hA2, hLx, hce⟩ := hI.at (i := j) (by rw [← HLN.out]; exact hlt)
     clear hA1 hA2
     subst hpp
     obtain ⟨pp, cl', hlv, hcl⟩ := hLx.form
     obtain ⟨ln', hln'⟩ : ∃ ln', x.l.length = ln' := ⟨_, rfl⟩
     rw [hln'] at hlv
     subst hlv
     have HX1 : Hid (t.l[j]? = some x) := hx1
     have HC : Hid (Calls Try.prog 18 #[.agg #[.int .i64 x.k, .int .i64 x.n, .string (bs x.s), .int .i64 x.e, .int .i64 x.r.1, .int .i64 x.r.2.1, .bool x.r.2.2.1, .bool x.r.2.2.2, .int .i64 x.q.1, .int .i64 x.q.2.1, .bool x.q.2.2.1, .bool x.q.2.2.2, .slice pp ln' cl'], .int .i64 row, .int .i64 col] wr (DcQ (fun k => P k ∧ k < W.heap.size) wr (mpT (mvE row col) n x))) := HIH.out x (List.mem_of_getElem? hx1) _ wr pp ln' cl' hLx
     have e0 : wr.cell? ⟨gb, off + j * 13, none⟩ = some (.int .i64 x.k) := hce 0 _ rfl
     have e1 : wr.cell? ⟨gb, off + j * 13 + 1, none⟩ = some (.int .i64 x.n) := hce 1 _ rfl
     have e2 : wr.cell? ⟨gb, off + j * 13 + 2, none⟩ = some (.string (bs x.s)) := hce 2 _ rfl
     have e3 : wr.cell? ⟨gb, off + j * 13 + 3, none⟩ = some (.int .i64 x.e) := hce 3 _ rfl
     have e4 : wr.cell? ⟨gb, off + j * 13 + 4, none⟩ = some (.int .i64 x.r.1) := hce 4 _ rfl
     have e5 : wr.cell? ⟨gb, off + j * 13 + 5, none⟩ = some (.int .i64 x.r.2.1) := hce 5 _ rfl
     have e6 : wr.cell? ⟨gb, off + j * 13 + 6, none⟩ = some (.bool x.r.2.2.1) := hce 6 _ rfl
     have e7 : wr.cell? ⟨gb, off + j * 13 + 7, none⟩ = some (.bool x.r.2.2.2) := hce 7 _ rfl
     have e8 : wr.cell? ⟨gb, off + j * 13 + 8, none⟩ = some (.int .i64 x.q.1) := hce 8 _ rfl
     have e9 : wr.cell? ⟨gb, off + j * 13 + 9, none⟩ = some (.int .i64 x.q.2.1) := hce 9 _ rfl
     have e10 : wr.cell? ⟨gb, off + j * 13 + 10, none⟩ = some (.bool x.q.2.2.1) := hce 10 _ rfl
     have e11 : wr.cell? ⟨gb, off + j * 13 + 11, none⟩ = some (.bool x.q.2.2.2) := hce 11 _ rfl
     have e12 : wr.cell? ⟨gb, off + j * 13 + 12, none⟩ = some (.slice pp ln' cl') := hce 12 _ rfl
     clear hI hx1 hLx hce hcl hln'
     go_wp2_with fail
     refine HC.out.mono ?_
     rintro e w3 ⟨qq, lm, cm, rfl, hL, E3⟩
     obtain ⟨y, hy⟩ : ∃ y, mpT (mvE row col) n x = y := ⟨_, rfl⟩
     have HY : Hid (mpT (mvE row col) n x = y) := hy
     rw [hy] at hL ⊢
     have HL3 : Hid (IsL w3 (fun k => (P k ∧ k < W.heap.size) ∨ (W.heap.size + 1 + 1 ≤ k ∧ k ≠ g)) (.slice qq lm cm) y.l) := hL.mono (fun k hk hs => by rcases hk with hk | hk; exact .inl hk; exact .inr ⟨by omega, by omega⟩)
     have HO3 : Hid (OwY w3 (W.heap.size + 1 + 1) (.slice (some ⟨g, 0, none⟩) ps.length cap) ps ∧ Ext W w3 ∧ BlkX w3 W.heap.size t (.slice (some ⟨gb, off, none⟩) ln cl) ∧ BlkX w3 (W.heap.size + 1) tz (.slice none 0 0) ∧ (∀ p ∈ ps, IsL w3 (fun k => (P k ∧ k < W.heap.size) ∨ (W.heap.size + 1 + 1 ≤ k ∧ k ≠ g)) p.2 p.1.l)) := ⟨HO.out.1.ext E3, HO.out.2.2.1.trans E3, HB.out.1.ext E3, HB.out.2.ext E3, fun p hp => (HO.out.2.2.2.2 p hp).ext E3⟩
     have hw3 : W.heap.size + 1 < w3.heap.size := HO3.out.2.2.2.1.1
     clear hL E3 hy f12 k0 k1 k2 k3 k4 k5 k6 k7 k8 k9 k10 k11 k12 e0 e1 e2 e3 e4 e5 e6 e7 e8 e9 e10 e11 e12
     have HB4 : Hid (OwY (w3.alloc (.cells #[.int .i64 y.k, .int .i64 y.n, .string (bs y.s), .int .i64 y.e, .int .i64 y.r.1, .int .i64 y.r.2.1, .bool y.r.2.2.1, .bool y.r.2.2.2, .int .i64 y.q.1, .int .i64 y.q.2.1, .bool y.q.2.2.1, .bool y.q.2.2.2, .slice qq lm cm] 26)) (W.heap.size + 1 + 1) (.slice (some ⟨g, 0, none⟩) ps.length cap) ps) := HO3.out.1.ext ((Ext.refl _).alloc _)
     unfold aggX
     go_wp2_with (at_builtin; refine y_append _ (W.heap.size + 1 + 1) _ _ _ w3.heap.size ps y qq lm cm rfl rfl (by rfl) (by rfl) (by rw [← HO.out.2.2.2.1]; exact HB4.out) ?cR (by rw [HO.out.2.2.2.1]; omega) (by simp; omega) ?_)
     case cR =>
       intro j u hu
       rw [Addr.add_lit, cell_of_row _ _ _ _ _ (0, 0) (new_top w3 _), Nat.zero_add]
       rw [← hu, ← Array.getElem?_toList]; rfl
     intro v' w4 k1 k2 g4 cap4 hv4 k4
     subst hv4
     rw [← HO.out.2.2.2.1] at k2 k4
     have hg4 : g4 = g ∨ w3.heap.size ≤ g4 := by
       by_cases hg : g4 = g
       · exact .inl hg
       · rcases Nat.lt_or_ge g4 w3.heap.size with hlt4 | hge4
         · have := k4 g4 (by omega) (by simp [Value.ownBlock]; omega)
           simp [Value.ownBlock] at this
         · exact .inr hge4
     have HIL : Hid (∀ z l, IsL w3 (fun k => (P k ∧ k < W.heap.size) ∨ (W.heap.size + 1 + 1 ≤ k ∧ k ≠ g)) z l → IsL w4 (fun k => (P k ∧ k < W.heap.size) ∨ (W.heap.size + 1 + 1 ≤ k ∧ k ≠ g4)) z l) := fun z l hz =>
       (hz.mono (P' := fun k => ((P k ∧ k < W.heap.size) ∨ (W.heap.size + 1 + 1 ≤ k ∧ k ≠ g)) ∧ k < w3.heap.size) (fun k hk hs => ⟨hk, hs⟩)).ext ((Ext.refl _).alloc (.cells #[.int .i64 y.k, .int .i64 y.n, .string (bs y.s), .int .i64 y.e, .int .i64 y.r.1, .int .i64 y.r.2.1, .bool y.r.2.2.1, .bool y.r.2.2.2, .int .i64 y.q.1, .int .i64 y.q.2.1, .bool y.q.2.2.1, .bool y.q.2.2.2, .slice qq lm cm] 26)) |>.keep k2.size (fun k hk hs => k2.block k hs (by simp [Value.ownBlock]; rcases hk.1 with h | h <;> omega)) (fun k hk _ => by rcases hk.1 with h | h; exact .inl h; exact .inr ⟨h.1, by omega⟩)
     have HG : Hid (OwY w4 (W.heap.size + 1 + 1) (.slice (some ⟨g4, 0, none⟩) (ps.length + 1) cap4) (ps ++ [(y, .slice qq lm cm)]) ∧ Ext W w4 ∧ BlkX w4 W.heap.size t (.slice (some ⟨gb, off, none⟩) ln cl) ∧ BlkX w4 (W.heap.size + 1) tz (.slice none 0 0)) :=
       ⟨k1, ext_grownY k2 HB4.out (HO3.out.2.1.alloc _) (by omega), (HO3.out.2.2.1.ext ((Ext.refl _).alloc _)).grownY k2 HB4.out (by omega), (HO3.out.2.2.2.1.ext ((Ext.refl _).alloc _)).grownY k2 HB4.out (by omega)⟩
     clear k1 k2 k4 HB4 hg4
     go_wp2_with fail
     go_roundw
     case rel =>
       refine ⟨j + 1, g4, cap4, ps ++ [(y, .slice qq lm cm)], by omega, by rw [HO.out.2.2.2.1], by go_num, by rw [List.length_append, HO.out.2.2.2.1]; rfl, ?_, ?_, ?_, HG.out.2.2.1, HG.out.2.2.2, HG.out.2.1⟩
       · rw [List.length_append]; exact HG.out.1
       · intro p hp
         rcases List.mem_append.1 hp with hp | hp
         · exact HIL.out _ _ (HO3.out.2.2.2.2 p hp)
         · simp at hp; subst hp; exact HIL.out _ _ HL3.out
       · rw [List.map_append, HO.out.2.1, List.take_add_one, HX1.out]; simp [← HY.out]
     case measure => show ln - ((j : Int) + 1).toNat < ln - ((j : Int)).toNat; omega
   · have hltI : ¬ (j : Int) < (ln : Int) := by omega
     have hjl : j = ln := by omega
     have HT : Hid (ps.map Prod.fst = t.l.map (mpT (mvE row col) n)) := by show _ = _; rw [HO.out.2.1, hjl, HLN.out, List.take_length]
     clear hlt hjl
     obtain ⟨qy, ⟨y0, y1, y2, y3, y4, y5, y6, y7, y8, y9, y10, y11, y12⟩, g0, g1, g2, g3, g4, g5, g6, g7, g8, g9, g10, g11, g12⟩ := HB.out.2
     go_wp2_with fail
     have hLL := HO.out.1.isL (P := fun k => (P k ∧ k < W.heap.size) ∨ W.heap.size + 1 + 1 ≤ k) (fun k hk => .inr hk) (fun p hp => (HO.out.2.2.2.2 p hp).mono (fun k hk _ => by rcases hk with h | h; exact .inl h; exact .inr h.1))
     rw [HT.out, HO.out.2.2.2.1] at hLL
     have HLL : Hid (IsL wr (fun k => (P k ∧ k < W.heap.size) ∨ W.heap.size + 1 + 1 ≤ k) (.slice (some ⟨g, 0, none⟩) j cap) (t.l.map (mpT (mvE row col) n))) := hLL
     clear hLL
     obtain ⟨L, hLq⟩ : ∃ L, t.l.map (mpT (mvE row col) n) = L := ⟨_, rfl⟩
     rw [hLq] at HLL HX
     show bodyPost Try.prog _ _ _ _ (putX (wr.setCell ⟨W.heap.size, 12, none⟩ (.slice (some ⟨g, 0, none⟩) j cap)) (W.heap.size + 1) (t.wL L) (.slice (some ⟨g, 0, none⟩) j cap))
     have hB6 : BlkX (wr.setCell ⟨W.heap.size, 12, none⟩ (.slice (some ⟨g, 0, none⟩) j cap)) (W.heap.size + 1) tz (.slice none 0 0) := Blk13.far1 HB.out.2 (by omega) 12 _
     have hL6 : IsL (wr.setCell ⟨W.heap.size, 12, none⟩ (.slice (some ⟨g, 0, none⟩) j cap)) (fun k => (P k ∧ k < W.heap.size) ∨ W.heap.size + 1 + 1 ≤ k) (.slice (some ⟨g, 0, none⟩) j cap) L := HLL.out.keep (by simp [World.setCell]) (fun k hk _ => Below.heap_setCell _ _ _ _ (by simp; omega)) (fun _ h _ => h)
     have hE6 : Ext W (wr.setCell ⟨W.heap.size, 12, none⟩ (.slice (some ⟨g, 0, none⟩) j cap)) := HO.out.2.2.1.setCell (p := ⟨W.heap.size, 12, none⟩) (Nat.le_refl _) _
     generalize wr.setCell ⟨W.heap.size, 12, none⟩ (.slice (some ⟨g, 0, none⟩) j cap) = W6 at hB6 hL6 hE6 ⊢
     rw [HX.out]
     exact endR (hB6.put (t.wL L) _) rfl ⟨_, _, _, rfl, (putX_L hL6 (fun k hk => by omega)).mono (fun k hk _ => by rcases hk with h | h; exact .inl h.1; exact .inr (by omega)), putX_E hE6 (by omega) _ _⟩ (fun h0 h1 h2 h3 h4 h5 h6 h7 h8 h9 h10 h11 h12 => by simp [results, Try.results18, go_sem, h0, h1, h2, h3, h4, h5, h6, h7, h8, h9, h10, h11, h12, aggX])
theorem rback_any (row col : Int) (n : Nat) : ∀ t : T, Hr n t → ∀ (P : Nat → Prop) (W : World) (pp : Option Addr) (ln cl : Nat), IsL W P (.slice pp ln cl) t.l → Calls Try.prog 18 #[.agg #[.int .i64 t.k, .int .i64 t.n, .string (bs t.s), .int .i64 t.e, .int .i64 t.r.1, .int .i64 t.r.2.1, .bool t.r.2.2.1, .bool t.r.2.2.2, .int .i64 t.q.1, .int .i64 t.q.2.1, .bool t.q.2.2.1, .bool t.q.2.2.2, .slice pp ln cl], .int .i64 row, .int .i64 col] W (DcQ P W (mpT (mvE row col) n t)) := by
 induction n with
 | zero => intro t h; cases h
 | succ n ih =>
   intro t hr P W pp ln cl hL
   by_cases hp : t.k = 6 ∨ t.k = 7 ∨ t.k = 8
   · exact rback_n n t row col hp hr.1 (fun x hx => ih x (hr.2 x hx)) P W pp ln cl hL
   by_cases h4 : t.k = 4
   · exact rback_4 n t row col h4 P W pp ln cl hL
   by_cases h5 : t.k = 5
   · exact rback_5 n t row col h5 P W pp ln cl hL
   · exact rback_0 n t row col h4 h5 hp P W pp ln cl hL

open Go.RowKit
set_option maxHeartbeats 2000000

theorem mvE_wL (a b : Int) (t : T) (l : List T) : mvE a b (t.wL l) = (mvE a b t).wL l := by
 have hk : (t.wL l).k = t.k := rfl
 unfold mvE
 rw [hk]
 by_cases k4 : t.k = 4
 · rw [if_pos k4, if_pos k4]; rfl
 · by_cases k5 : t.k = 5
   · rw [if_neg k4, if_pos k5, if_neg k4, if_pos k5]; rfl
   · rw [if_neg k4, if_neg k5, if_neg k4, if_neg k5]
theorem mvE_k (a b : Int) (t : T) : (mvE a b t).k = t.k := by
 unfold mvE
 split
 · rfl
 · split <;> rfl
theorem wL_wL (t : T) (l m : List T) : (t.wL l).wL m = t.wL m := rfl
/-- One change behind another. -/
theorem mpT_comp (f g : T → T) (hk : ∀ t, (f t).k = t.k) (hl : ∀ t, (f t).l = t.l) (hw : ∀ t l, f (t.wL l) = (f t).wL l) (n : Nat) : ∀ t, mpT g n (mpT f n t) = mpT (fun x => g (f x)) n t := by
 induction n with
 | zero => intro t; rfl
 | succ n ih =>
   intro t
   rw [mpT, mpT, mpT, hk, hl, hw, hw, wL_wL]
   show g ((f t).wL (List.map (if prB t.k = true then mpT g n else id) (List.map (if prB t.k = true then mpT f n else id) t.l))) = _
   rw [List.map_map]
   have e : ((if prB t.k = true then mpT g n else id) ∘ (if prB t.k = true then mpT f n else id)) = (if prB t.k = true then mpT (fun x => g (f x)) n else id) := by
     split
     · funext x; exact ih x
     · rfl
   rw [e]
theorem mvF_add (a b c d : Int) (r : Rf) : mvF a b (mvF c d r) = mvF (a + c) (b + d) r := by
 obtain ⟨r1, r2, r3, r4⟩ := r
 unfold mvF
 cases r3 <;> cases r4 <;> simp [wrap64] <;> omega
theorem mvF_mod (a b a' b' : Int) (ha : (a - a') % 18446744073709551616 = 0) (hb : (b - b') % 18446744073709551616 = 0) (r : Rf) : mvF a b r = mvF a' b' r := by
 obtain ⟨r1, r2, r3, r4⟩ := r
 unfold mvF
 cases r3 <;> cases r4 <;> simp [wrap64] <;> omega
theorem mvF_zero (r : Rf) (h1 : I64 r.1) (h2 : I64 r.2.1) : mvF 0 0 r = r := by
 obtain ⟨r1, r2, r3, r4⟩ := r
 unfold I64 at h1 h2
 simp only at h1 h2
 unfold mvF
 cases r3 <;> cases r4 <;> simp [wrap64] <;> omega
theorem mvE_add (a b c d : Int) (t : T) : mvE a b (mvE c d t) = mvE (a + c) (b + d) t := by
 cases t with
 | mk k n s e r q l =>
 unfold mvE
 simp only [T.k, T.wR, T.wRQ, T.n, T.s, T.e, T.r, T.q, T.l]
 by_cases k4 : k = 4
 · subst k4; simp only [if_true, mvF_add]
 · by_cases k5 : k = 5
   · subst k5; simp [mvF_add]
   · simp [k4, k5]
theorem mvE_mod (a b a' b' : Int) (ha : (a - a') % 18446744073709551616 = 0) (hb : (b - b') % 18446744073709551616 = 0) : mvE a b = mvE a' b' := by
 funext t
 unfold mvE
 rw [mvF_mod a b a' b' ha hb, mvF_mod a b a' b' ha hb]
theorem mpT_add (a b c d : Int) (n : Nat) (t : T) : mpT (mvE a b) n (mpT (mvE c d) n t) = mpT (mvE (a + c) (b + d)) n t := by
 rw [mpT_comp _ _ (mvE_k c d) (mvE_l c d) (mvE_wL c d)]
 congr 1
 funext x
 exact mvE_add a b c d x
theorem mpT_zero (n : Nat) : ∀ t, Wf t → mpT (mvE 0 0) n t = t := by
 induction n with
 | zero => intro t _; rfl
 | succ n ih =>
   intro t h
   have hw := h
   cases h with
   | mk t h1 h2 h3 h4 h5 h6 h7 h8 h9 =>
   have e : List.map (if prB t.k = true then mpT (mvE 0 0) n else id) t.l = t.l := by
     split
     · exact (List.map_congr_left (fun x hx => ih x (h9 x hx))).trans (List.map_id _)
     · exact List.map_id _
   rw [mpT, e, wL_self]
   unfold mvE
   rw [mvF_zero _ h5 h6, mvF_zero _ h7 h8]
   cases t
   split
   · rfl
   · split <;> rfl
/-- What is seen from its place comes back. -/
theorem mp_back (r c : Int) (n : Nat) (t : T) (h : Wf t) : mpT (mvE r c) n (mpT (mvE (wrap64 (-r)) (wrap64 (-c))) n t) = t := by
 rw [mpT_add, mvE_mod _ _ 0 0 (by unfold wrap64; omega) (by unfold wrap64; omega)]
 exact mpT_zero n t h
/-! Errors -/
/-! Well made -/

open Go

section
variable {P : Program} {ops : Array Oper} {Q : Exit → Act → World → Prop} {md : Region.Mode} {B : Nat → Bool} {S : World → Prop}
/-- Each of rs may come up next. -/
def Bars (P : Program) (md : Region.Mode) (ops : Array Oper) (Q : Exit → Act → World → Prop) (B : Nat → Bool) (S : World → Prop) (n : Nat) (l : Array Bool) (a : Act) (w : World) (rs : List Nat) : Prop :=
 ∀ i ∈ rs, wpOp P ops Q i (fun x v => (B i = false → S v) ∧ wpBar P md ops Q B S n (l.setIfInBounds i true) x v) a w
theorem Bars.nil {n : Nat} {l : Array Bool} {a : Act} {w : World} : Bars P md ops Q B S n l a w [] := fun _ h => by cases h
theorem Bars.cons {n : Nat} {l : Array Bool} {a : Act} {w : World} {i : Nat} {o : Oper} {rs : List Nat} (ho : ops[i]? = some o)
   (h : ∀ K : Act → World → Prop, Shut (∀ a w, (B i = false → S w) → wpBar P md ops Q B S n (l.setIfInBounds i true) a w → K a w) → if Region.wanted o (yielded ops a.tmps) = true then Oper.wp P o a w K Q else K (a.put o.dst undef) w)
   (hs : Bars P md ops Q B S n l a w rs) : Bars P md ops Q B S n l a w (i :: rs) := fun j hj => by
 rcases List.mem_cons.1 hj with rfl | hj
 · exact wpOp_step ho fun K hK => h K fun a w hS hW => hK a w ⟨hS, hW⟩
 · exact hs j hj
theorem bar_list {rs : List Nat} {n : Nat} {l : Array Bool} {a : Act} {w : World} (hr : Region.ready md ops l = rs) (hne : rs ≠ []) (h : Bars P md ops Q B S n l a w rs) : wpBar P md ops Q B S (n + 1) l a w :=
 ⟨fun h0 => absurd (hr.symm.trans h0) hne, fun i hi => h i (hr ▸ hi)⟩
/-- As bar_take, the operation off the list: so it is laid out. -/
theorem bar_takeL {i : Nat} {oi : Oper} {v : Value} {n : Nat} {l : Array Bool} {a : Act} {w : World} (hi : ops.toList[i]? = some oi) (hs : Region.noSelect ops = true) (hf : Region.free md ops l i = true)
   (hr : (Region.ready md ops l).contains i = true) (hw : waitsB md ops B i l = true) (hQ : ∀ c a w, Q (.panic c) (a.put oi.dst v) w → Q (.panic c) a w) (hy : YieldsIf P ops S oi v a) (hS : S w)
   (h : wpBar P md ops Q B S n (l.setIfInBounds i true) (a.put oi.dst v) w) : wpBar P md ops Q B S (n + 1) l a w :=
 bar_take (by rw [← Array.getElem?_toList]; exact hi) hs hf hr hw hQ hy hS h
end

open Go.RowKit
theorem hx13 {w w' : World} {b : Nat} {t : T} {v : Value} (h : Hid (BlkX w b t v)) (e : Ext w w') : Hid (BlkX w' b t v) := h.out.ext e
theorem hxL {w w' : World} {P : Nat → Prop} {v : Value} {l : List T} (h : Hid (IsL w P v l)) (e : Ext w w') : Hid (IsL w' P v l) := h.out.ext e
end Go.Proofs.Ytcggiljlilbdfaa
