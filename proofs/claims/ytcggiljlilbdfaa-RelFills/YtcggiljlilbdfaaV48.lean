/-
 The document's answer for layer 10: a formula that is filled.
 The document's answer for layer 10: a formula with parts that is filled.
 The document's answer for layer 10: fill, of any tree; Fill.
-/
import Derived.Test.YtcggiljlilbdfaaV47
import Derived.Test.YtcggiljlilbdfaaV23
namespace Go.Proofs.Ytcggiljlilbdfaa
open Go.RowKit
set_option maxHeartbeats 6000000

set_option maxRecDepth 100000 in
theorem rfill_0 (n : Nat) (t : T) (row col : Int) (hp : ¬ (t.k = 6 ∨ t.k = 7 ∨ t.k = 8)) (P : Nat → Prop) (W : World) (pp : Option Addr) (ln cl : Nat) (hL : IsL W P (.slice pp ln cl) t.l) :
   Calls Try.prog 49 #[.agg #[.int .i64 t.k, .int .i64 t.n, .string (bs t.s), .int .i64 t.e, .int .i64 t.r.1, .int .i64 t.r.2.1, .bool t.r.2.2.1, .bool t.r.2.2.2, .int .i64 t.q.1, .int .i64 t.q.2.1, .bool t.q.2.2.1, .bool t.q.2.2.2, .slice pp ln cl], .int .i64 row, .int .i64 col] W (DcQ P W (mpT (fiE row col) (n + 1) t)) := by
 have HX0 : Hid (mpT (fiE row col) (n + 1) t = fiE row col t) := mpT_leaf _ n t (by unfold prB; simpa using hp)
 have HI : Hid (IsL W P (.slice pp ln cl) t.l) := hL
 have c1 := fun V => rmoved_any t.r row col V
 have c2 := fun V => rmoved_any t.q row col V
 obtain ⟨r, hr⟩ : ∃ r, mvF row col t.r = r := ⟨_, rfl⟩
 obtain ⟨q, hq⟩ : ∃ q, mvF row col t.q = q := ⟨_, rfl⟩
 rw [hr] at c1
 rw [hq] at c2
 have c3 := fun V => ron_any r.1 r.2.1 r.2.2.1 r.2.2.2 V
 have c4 := fun V => ron_any q.1 q.2.1 q.2.2.1 q.2.2.2 V
 have c0 := fun V => rparts10_any t.k V
 have hpb : prB t.k = false := by unfold prB; simpa using hp
 rw [hpb] at c0
 have HF : Hid (fiE row col t = if t.k = 4 ∧ inB r.1 r.2.1 = false ∨ t.k = 5 ∧ (inB r.1 r.2.1 && inB q.1 q.2.1) = false then tErr 1 else if t.k = 4 then t.wR r else if t.k = 5 then t.wRQ r q else t) := by
   show _ = _
   unfold fiE mvE rcB
   rw [hr, hq, Bool.and_self]
 clear hL hp hpb hr hq
 go_enter Try.func49, Try.ntmps49
 go_upto_region 1 with fail
 have HBX : Hid (Ext W ((W.alloc (.cells #[.int .i64 t.k, .int .i64 t.n, .string (bs t.s), .int .i64 t.e, .int .i64 t.r.1, .int .i64 t.r.2.1, .bool t.r.2.2.1, .bool t.r.2.2.2, .int .i64 t.q.1, .int .i64 t.q.2.1, .bool t.q.2.2.1, .bool t.q.2.2.2, .slice pp ln cl] 26)).alloc (.cells #[.int .i64 0, .int .i64 0, .string ⟨#[]⟩, .int .i64 0, .int .i64 0, .int .i64 0, .bool false, .bool false, .int .i64 0, .int .i64 0, .bool false, .bool false, .slice none 0 0] 26)) ∧ BlkX ((W.alloc (.cells #[.int .i64 t.k, .int .i64 t.n, .string (bs t.s), .int .i64 t.e, .int .i64 t.r.1, .int .i64 t.r.2.1, .bool t.r.2.2.1, .bool t.r.2.2.2, .int .i64 t.q.1, .int .i64 t.q.2.1, .bool t.q.2.2.1, .bool t.q.2.2.2, .slice pp ln cl] 26)).alloc (.cells #[.int .i64 0, .int .i64 0, .string ⟨#[]⟩, .int .i64 0, .int .i64 0, .int .i64 0, .bool false, .bool false, .int .i64 0, .int .i64 0, .bool false, .bool false, .slice none 0 0] 26)) W.heap.size t (.slice pp ln cl) ∧ BlkX ((W.alloc (.cells #[.int .i64 t.k, .int .i64 t.n, .string (bs t.s), .int .i64 t.e, .int .i64 t.r.1, .int .i64 t.r.2.1, .bool t.r.2.2.1, .bool t.r.2.2.2, .int .i64 t.q.1, .int .i64 t.q.2.1, .bool t.q.2.2.1, .bool t.q.2.2.2, .slice pp ln cl] 26)).alloc (.cells #[.int .i64 0, .int .i64 0, .string ⟨#[]⟩, .int .i64 0, .int .i64 0, .int .i64 0, .bool false, .bool false, .int .i64 0, .int .i64 0, .bool false, .bool false, .slice none 0 0] 26)) (W.heap.size + 1) tz (.slice none 0 0)) := ⟨((Ext.refl _).alloc _).alloc _, blk13_top rfl ((Ext.refl _).alloc _), BlkX.top (by simp) (Ext.refl _)⟩
 have HW1s : Hid (W.heap.size + 1 + 1 = ((W.alloc (.cells #[.int .i64 t.k, .int .i64 t.n, .string (bs t.s), .int .i64 t.e, .int .i64 t.r.1, .int .i64 t.r.2.1, .bool t.r.2.2.1, .bool t.r.2.2.2, .int .i64 t.q.1, .int .i64 t.q.2.1, .bool t.q.2.2.1, .bool t.q.2.2.2, .slice pp ln cl] 26)).alloc (.cells #[.int .i64 0, .int .i64 0, .string ⟨#[]⟩, .int .i64 0, .int .i64 0, .int .i64 0, .bool false, .bool false, .int .i64 0, .int .i64 0, .bool false, .bool false, .slice none 0 0] 26)).heap.size) := by show _ = _; simp
 generalize ((W.alloc (.cells #[.int .i64 t.k, .int .i64 t.n, .string (bs t.s), .int .i64 t.e, .int .i64 t.r.1, .int .i64 t.r.2.1, .bool t.r.2.2.1, .bool t.r.2.2.2, .int .i64 t.q.1, .int .i64 t.q.2.1, .bool t.q.2.2.1, .bool t.q.2.2.2, .slice pp ln cl] 26)).alloc (.cells #[.int .i64 0, .int .i64 0, .string ⟨#[]⟩, .int .i64 0, .int .i64 0, .int .i64 0, .bool false, .bool false, .int .i64 0, .int .i64 0, .bool false, .bool false, .slice none 0 0] 26)) = W1 at *
 obtain ⟨N1, hN1⟩ : ∃ N, W.heap.size + 1 = N := ⟨_, rfl⟩
 have HNW : Hid (W.heap.size + 1 = N1) := hN1
 clear hN1
 have mkS : Hid (∀ V, Ext W1 V → V.cell? ⟨W.heap.size, 0, none⟩ = some (.int .i64 t.k) ∧ V.cell? ⟨W.heap.size, 1, none⟩ = some (.int .i64 t.n) ∧ V.cell? ⟨W.heap.size, 2, none⟩ = some (.string (bs t.s)) ∧ V.cell? ⟨W.heap.size, 3, none⟩ = some (.int .i64 t.e) ∧ V.cell? ⟨W.heap.size, 4, none⟩ = some (.int .i64 t.r.1) ∧ V.cell? ⟨W.heap.size, 5, none⟩ = some (.int .i64 t.r.2.1) ∧ V.cell? ⟨W.heap.size, 6, none⟩ = some (.bool t.r.2.2.1) ∧ V.cell? ⟨W.heap.size, 7, none⟩ = some (.bool t.r.2.2.2) ∧ V.cell? ⟨W.heap.size, 8, none⟩ = some (.int .i64 t.q.1) ∧ V.cell? ⟨W.heap.size, 9, none⟩ = some (.int .i64 t.q.2.1) ∧ V.cell? ⟨W.heap.size, 10, none⟩ = some (.bool t.q.2.2.1) ∧ V.cell? ⟨W.heap.size, 11, none⟩ = some (.bool t.q.2.2.2) ∧ V.cell? ⟨W.heap.size, 12, none⟩ = some (.slice pp ln cl)) := fun V e => (HBX.out.2.1.ext e).2.1
 go_cut [7, 8] (fun pa pb wx => ∃ ga gb : Nat, pa = .pointer (some ⟨ga, 0, none⟩) ∧ pb = .pointer (some ⟨gb, 0, none⟩) ∧ Blk wx ga (.int .i64 r.1) (.int .i64 r.2.1) (.bool r.2.2.1) (.bool r.2.2.2) ∧ Blk wx gb (.int .i64 q.1) (.int .i64 q.2.1) (.bool q.2.2.1) (.bool q.2.2.2) ∧ Ext W1 wx ∧ N1 < ga ∧ N1 < gb)
 case first =>
   clear HX0 HF HI c0 c3 c4
   refine bar_begin (B := fun _ => false) (S := fun V => V.cell? ⟨W.heap.size, 0, none⟩ = some (.int .i64 t.k) ∧ V.cell? ⟨W.heap.size, 1, none⟩ = some (.int .i64 t.n) ∧ V.cell? ⟨W.heap.size, 2, none⟩ = some (.string (bs t.s)) ∧ V.cell? ⟨W.heap.size, 3, none⟩ = some (.int .i64 t.e) ∧ V.cell? ⟨W.heap.size, 4, none⟩ = some (.int .i64 t.r.1) ∧ V.cell? ⟨W.heap.size, 5, none⟩ = some (.int .i64 t.r.2.1) ∧ V.cell? ⟨W.heap.size, 6, none⟩ = some (.bool t.r.2.2.1) ∧ V.cell? ⟨W.heap.size, 7, none⟩ = some (.bool t.r.2.2.2) ∧ V.cell? ⟨W.heap.size, 8, none⟩ = some (.int .i64 t.q.1) ∧ V.cell? ⟨W.heap.size, 9, none⟩ = some (.int .i64 t.q.2.1) ∧ V.cell? ⟨W.heap.size, 10, none⟩ = some (.bool t.q.2.2.1) ∧ V.cell? ⟨W.heap.size, 11, none⟩ = some (.bool t.q.2.2.2) ∧ V.cell? ⟨W.heap.size, 12, none⟩ = some (.slice pp ln cl)) (by kernel_rfl) ?_
   obtain ⟨y0, hy0⟩ : ∃ y0, World.drew W1 = y0 := ⟨_, rfl⟩
   have X : Hid (Ext W1 y0) := by show Ext _ _; rw [← hy0]; exact (Ext.refl _).drew
   rw [hy0]
   clear hy0
   have hS0 := mkS.out y0 X.out
   refine bar_take (i := 0) (v := ?v0) rfl (by kernel_rfl) (by kernel_rfl) (by kernel_rfl) (by kernel_rfl) (fun _ _ _ h => h) (Or.inl ⟨by rfl, ?hy0⟩) hS0 ?rest0
   case hy0 => (intro W hSW; (try dsimp only at hSW); go_simp; with_reducible rfl)
   simp only [Act.put, List.setIfInBounds_toArray]
   refine bar_take (i := 1) (v := ?v1) rfl (by kernel_rfl) (by kernel_rfl) (by kernel_rfl) (by kernel_rfl) (fun _ _ _ h => h) (Or.inl ⟨by rfl, ?hy1⟩) hS0 ?rest1
   case hy1 => (intro W hSW; (try dsimp only at hSW); go_simp; with_reducible rfl)
   simp only [Act.put]
   refine bar_take (i := 2) (v := ?v2) rfl (by kernel_rfl) (by kernel_rfl) (by kernel_rfl) (by kernel_rfl) (fun _ _ _ h => h) (Or.inl ⟨by rfl, ?hy2⟩) hS0 ?rest2
   case hy2 => (intro W hSW; (try dsimp only at hSW); go_simp; with_reducible rfl)
   simp only [Act.put]
   refine bar_take (i := 3) (v := ?v3) rfl (by kernel_rfl) (by kernel_rfl) (by kernel_rfl) (by kernel_rfl) (fun _ _ _ h => h) (Or.inl ⟨by rfl, ?hy3⟩) hS0 ?rest3
   case hy3 => (intro W hSW; (try dsimp only at hSW); go_simp; with_reducible rfl)
   simp only [Act.put]
   refine bar_take (i := 5) (v := ?v5) rfl (by kernel_rfl) (by kernel_rfl) (by kernel_rfl) (by kernel_rfl) (fun _ _ _ h => h) (Or.inl ⟨by rfl, ?hy5⟩) hS0 ?rest5
   case hy5 => (intro W hSW; (try dsimp only at hSW); go_simp; with_reducible rfl)
   simp only [Act.put]
   refine bar_take (i := 6) (v := ?v6) rfl (by kernel_rfl) (by kernel_rfl) (by kernel_rfl) (by kernel_rfl) (fun _ _ _ h => h) (Or.inl ⟨by rfl, ?hy6⟩) hS0 ?rest6
   case hy6 => (intro W hSW; (try dsimp only at hSW); go_simp; with_reducible rfl)
   simp only [Act.put]
   refine bar_take (i := 7) (v := ?v7) rfl (by kernel_rfl) (by kernel_rfl) (by kernel_rfl) (by kernel_rfl) (fun _ _ _ h => h) (Or.inl ⟨by rfl, ?hy7⟩) hS0 ?rest7
   case hy7 => (intro W hSW; (try dsimp only at hSW); go_simp; with_reducible rfl)
   simp only [Act.put]
   refine bar_take (i := 8) (v := ?v8) rfl (by kernel_rfl) (by kernel_rfl) (by kernel_rfl) (by kernel_rfl) (fun _ _ _ h => h) (Or.inl ⟨by rfl, ?hy8⟩) hS0 ?rest8
   case hy8 => (intro W hSW; (try dsimp only at hSW); go_simp; with_reducible rfl)
   simp only [Act.put]
   clear hS0
   refine fr_0 (a := t.r) (b := t.q) (r := r) (q := q) (N1 := N1) ?hE y0 X
   case hE =>
     unfold frE
     refine ⟨by have h1 := HNW.out; have h2 := HW1s.out; show N1 + 1 = W1.heap.size; omega, mkS, c1, c2, ?_⟩
     intro ga gb y9 X9 GA NGA GB NGB HD
     go_wp2_with fail
     go_meet
     case rel => exact ⟨ga, gb, rfl, rfl, GA.out, GB.out, X9.out, NGA.out, NGB.out⟩
 case rest =>
   obtain ⟨ga, gb, rfl, rfl, QA, QB, QE, hga, hgb⟩ := hcut
   have HQ : Hid (BlkX wc W.heap.size t (.slice pp ln cl) ∧ BlkX wc (W.heap.size + 1) tz (.slice none 0 0) ∧ Ext W wc) := ⟨HBX.out.2.1.ext QE, HBX.out.2.2.ext QE, HBX.out.1.trans QE⟩
   have hz : W.heap.size + 1 < ga ∧ W.heap.size + 1 < gb := by rw [HNW.out]; exact ⟨hga, hgb⟩
   have HGA : Hid (Blk wc ga (.int .i64 r.1) (.int .i64 r.2.1) (.bool r.2.2.1) (.bool r.2.2.2) ∧ Blk wc gb (.int .i64 q.1) (.int .i64 q.2.1) (.bool q.2.2.1) (.bool q.2.2.2)) := ⟨QA, QB⟩
   clear c1 c2 mkS HBX QA QB QE hga hgb
   by_cases k4 : t.k = 4
   · have e4 : (t.k == 4) = true := by rw [k4]; rfl
     have e5 : (t.k == 5) = false := by rw [k4]; rfl
     cases hb : inB r.1 r.2.1
     · have HX : Hid (mpT (fiE row col) (n + 1) t = tErr 1) := by show _ = _; rw [HX0.out, HF.out]; exact if_pos (.inl ⟨k4, hb⟩)
       rw [hb] at c3
       clear k4 hb HX0 HF c4 c0
       obtain ⟨qe, ⟨la0, la1, la2, la3, la4, la5, la6, la7, la8, la9, la10, la11, la12⟩, ga0, ga1, ga2, ga3, ga4, ga5, ga6, ga7, ga8, ga9, ga10, ga11, ga12⟩ := HQ.out.1
       obtain ⟨qr, ⟨lc0, lc1, lc2, lc3, lc4, lc5, lc6, lc7, lc8, lc9, lc10, lc11, lc12⟩, gc0, gc1, gc2, gc3, gc4, gc5, gc6, gc7, gc8, gc9, gc10, gc11, gc12⟩ := HQ.out.2.1
       obtain ⟨qa, ⟨a0, a1, a2, a3⟩, af0, af1, af2, af3⟩ := HGA.out.1
       obtain ⟨qb, ⟨b0, b1, b2, b3⟩, bf0, bf1, bf2, bf3⟩ := HGA.out.2
       go_wp2_with fail
       refine (c3 _).mono ?_
       rintro e w3 ⟨rfl, E3⟩
       replace HQ : Hid (BlkX w3 W.heap.size t (.slice pp ln cl) ∧ BlkX w3 (W.heap.size + 1) tz (.slice none 0 0) ∧ Ext W w3) := ⟨HQ.out.1.ext E3, HQ.out.2.1.ext E3, HQ.out.2.2.trans E3⟩
       replace HGA : Hid (Blk w3 ga (.int .i64 r.1) (.int .i64 r.2.1) (.bool r.2.2.1) (.bool r.2.2.2) ∧ Blk w3 gb (.int .i64 q.1) (.int .i64 q.2.1) (.bool q.2.2.1) (.bool q.2.2.2)) := ⟨HGA.out.1.ext E3, HGA.out.2.ext E3⟩
       clear E3 la0 la1 la2 la3 la4 la5 la6 la7 la8 la9 la10 la11 la12 ga0 ga1 ga2 ga3 ga4 ga5 ga6 ga7 ga8 ga9 ga10 ga11 ga12 lc0 lc1 lc2 lc3 lc4 lc5 lc6 lc7 lc8 lc9 lc10 lc11 lc12 gc0 gc1 gc2 gc3 gc4 gc5 gc6 gc7 gc8 gc9 gc10 gc11 gc12 a0 a1 a2 a3 b0 b1 b2 b3 af0 af1 af2 af3 bf0 bf1 bf2 bf3 qe qr qa qb
       obtain ⟨qe, ⟨la0, la1, la2, la3, la4, la5, la6, la7, la8, la9, la10, la11, la12⟩, ga0, ga1, ga2, ga3, ga4, ga5, ga6, ga7, ga8, ga9, ga10, ga11, ga12⟩ := HQ.out.1
       obtain ⟨qr, ⟨lc0, lc1, lc2, lc3, lc4, lc5, lc6, lc7, lc8, lc9, lc10, lc11, lc12⟩, gc0, gc1, gc2, gc3, gc4, gc5, gc6, gc7, gc8, gc9, gc10, gc11, gc12⟩ := HQ.out.2.1
       obtain ⟨qa, ⟨a0, a1, a2, a3⟩, af0, af1, af2, af3⟩ := HGA.out.1
       obtain ⟨qb, ⟨b0, b1, b2, b3⟩, bf0, bf1, bf2, bf3⟩ := HGA.out.2
       go_wp2_with fail
       show bodyPost Try.prog _ _ _ _ (putX w3 (W.heap.size + 1) (tErr 1) (.slice none 0 0))
       rw [HX.out]
       exact endR (HQ.out.2.1.put (tErr 1) (.slice none 0 0)) rfl ⟨none, 0, 0, rfl, .nil, putX_E HQ.out.2.2 (by omega) _ _⟩ (fun h0 h1 h2 h3 h4 h5 h6 h7 h8 h9 h10 h11 h12 => by simp [results, Try.results49, go_sem, h0, h1, h2, h3, h4, h5, h6, h7, h8, h9, h10, h11, h12, aggX])
     · have HX : Hid (mpT (fiE row col) (n + 1) t = t.wR r) := by show _ = _; rw [HX0.out, HF.out]; rw [if_neg (by simp [k4, hb]), if_pos k4]
       rw [hb] at c3
       clear k4 hb HX0 HF c4
       have ha1 : ¬ ga = W.heap.size := by omega
       have ha2 : ¬ W.heap.size = ga := by omega
       have hb1 : ¬ gb = W.heap.size := by omega
       have hb2 : ¬ W.heap.size = gb := by omega
       obtain ⟨qe, ⟨la0, la1, la2, la3, la4, la5, la6, la7, la8, la9, la10, la11, la12⟩, ga0, ga1, ga2, ga3, ga4, ga5, ga6, ga7, ga8, ga9, ga10, ga11, ga12⟩ := HQ.out.1
       obtain ⟨qr, ⟨lc0, lc1, lc2, lc3, lc4, lc5, lc6, lc7, lc8, lc9, lc10, lc11, lc12⟩, gc0, gc1, gc2, gc3, gc4, gc5, gc6, gc7, gc8, gc9, gc10, gc11, gc12⟩ := HQ.out.2.1
       obtain ⟨qa, ⟨a0, a1, a2, a3⟩, af0, af1, af2, af3⟩ := HGA.out.1
       obtain ⟨qb, ⟨b0, b1, b2, b3⟩, bf0, bf1, bf2, bf3⟩ := HGA.out.2
       go_wp2_with fail
       refine (c3 _).mono ?_
       rintro e w3 ⟨rfl, E3⟩
       replace HQ : Hid (BlkX w3 W.heap.size t (.slice pp ln cl) ∧ BlkX w3 (W.heap.size + 1) tz (.slice none 0 0) ∧ Ext W w3) := ⟨HQ.out.1.ext E3, HQ.out.2.1.ext E3, HQ.out.2.2.trans E3⟩
       replace HGA : Hid (Blk w3 ga (.int .i64 r.1) (.int .i64 r.2.1) (.bool r.2.2.1) (.bool r.2.2.2) ∧ Blk w3 gb (.int .i64 q.1) (.int .i64 q.2.1) (.bool q.2.2.1) (.bool q.2.2.2)) := ⟨HGA.out.1.ext E3, HGA.out.2.ext E3⟩
       clear E3 la0 la1 la2 la3 la4 la5 la6 la7 la8 la9 la10 la11 la12 ga0 ga1 ga2 ga3 ga4 ga5 ga6 ga7 ga8 ga9 ga10 ga11 ga12 lc0 lc1 lc2 lc3 lc4 lc5 lc6 lc7 lc8 lc9 lc10 lc11 lc12 gc0 gc1 gc2 gc3 gc4 gc5 gc6 gc7 gc8 gc9 gc10 gc11 gc12 a0 a1 a2 a3 b0 b1 b2 b3 af0 af1 af2 af3 bf0 bf1 bf2 bf3 qe qr qa qb
       obtain ⟨qe, ⟨la0, la1, la2, la3, la4, la5, la6, la7, la8, la9, la10, la11, la12⟩, ga0, ga1, ga2, ga3, ga4, ga5, ga6, ga7, ga8, ga9, ga10, ga11, ga12⟩ := HQ.out.1
       obtain ⟨qr, ⟨lc0, lc1, lc2, lc3, lc4, lc5, lc6, lc7, lc8, lc9, lc10, lc11, lc12⟩, gc0, gc1, gc2, gc3, gc4, gc5, gc6, gc7, gc8, gc9, gc10, gc11, gc12⟩ := HQ.out.2.1
       obtain ⟨qa, ⟨a0, a1, a2, a3⟩, af0, af1, af2, af3⟩ := HGA.out.1
       obtain ⟨qb, ⟨b0, b1, b2, b3⟩, bf0, bf1, bf2, bf3⟩ := HGA.out.2
       go_wp2_with fail
       refine (c0 _).mono ?_
       rintro e w6 ⟨rfl, rfl⟩
       go_wp2_with fail
       show bodyPost Try.prog _ _ _ _ (putX ((((w3.setCell ⟨W.heap.size, 4, none⟩ (.int .i64 r.1)).setCell ⟨W.heap.size, 5, none⟩ (.int .i64 r.2.1)).setCell ⟨W.heap.size, 6, none⟩ (.bool r.2.2.1)).setCell ⟨W.heap.size, 7, none⟩ (.bool r.2.2.2)) (W.heap.size + 1) (t.wR r) (.slice pp ln cl))
       rw [HX.out]
       have E4 : Ext W ((((w3.setCell ⟨W.heap.size, 4, none⟩ (.int .i64 r.1)).setCell ⟨W.heap.size, 5, none⟩ (.int .i64 r.2.1)).setCell ⟨W.heap.size, 6, none⟩ (.bool r.2.2.1)).setCell ⟨W.heap.size, 7, none⟩ (.bool r.2.2.2)) := ((((HQ.out.2.2).setCell (p := ⟨W.heap.size, 4, none⟩) (Nat.le_refl _) _).setCell (p := ⟨W.heap.size, 5, none⟩) (Nat.le_refl _) _).setCell (p := ⟨W.heap.size, 6, none⟩) (Nat.le_refl _) _).setCell (p := ⟨W.heap.size, 7, none⟩) (Nat.le_refl _) _
       have B4 : BlkX ((((w3.setCell ⟨W.heap.size, 4, none⟩ (.int .i64 r.1)).setCell ⟨W.heap.size, 5, none⟩ (.int .i64 r.2.1)).setCell ⟨W.heap.size, 6, none⟩ (.bool r.2.2.1)).setCell ⟨W.heap.size, 7, none⟩ (.bool r.2.2.2)) (W.heap.size + 1) tz (.slice none 0 0) := Blk13.far1 (Blk13.far1 (Blk13.far1 (Blk13.far1 (HQ.out.2.1) (by omega) 4 _) (by omega) 5 _) (by omega) 6 _) (by omega) 7 _
       generalize (((w3.setCell ⟨W.heap.size, 4, none⟩ (.int .i64 r.1)).setCell ⟨W.heap.size, 5, none⟩ (.int .i64 r.2.1)).setCell ⟨W.heap.size, 6, none⟩ (.bool r.2.2.1)).setCell ⟨W.heap.size, 7, none⟩ (.bool r.2.2.2) = w9 at *
       exact endR (B4.put (t.wR r) (.slice pp ln cl)) rfl ⟨pp, ln, cl, rfl, (HI.out.mono (P' := fun k => k < W.heap.size ∧ P k) (fun k hk hs => ⟨hs, hk⟩)).keep (putX_E E4 (by omega) _ _).sz (fun k hk hs => (putX_E E4 (by omega) (t.wR r) (.slice pp ln cl)).block k hs) (fun k hk _ => .inl hk.2), putX_E E4 (by omega) _ _⟩ (fun h0 h1 h2 h3 h4 h5 h6 h7 h8 h9 h10 h11 h12 => by simp [results, Try.results49, go_sem, h0, h1, h2, h3, h4, h5, h6, h7, h8, h9, h10, h11, h12, aggX])
   by_cases k5 : t.k = 5
   · have e4 : (t.k == 4) = false := by rw [k5]; rfl
     have e5 : (t.k == 5) = true := by rw [k5]; rfl
     cases hb : inB r.1 r.2.1
     · have HX : Hid (mpT (fiE row col) (n + 1) t = tErr 1) := by show _ = _; rw [HX0.out, HF.out]; exact if_pos (.inr ⟨k5, by rw [hb]; rfl⟩)
       rw [hb] at c3
       clear k4 k5 hb HX0 HF c4 c0
       obtain ⟨qe, ⟨la0, la1, la2, la3, la4, la5, la6, la7, la8, la9, la10, la11, la12⟩, ga0, ga1, ga2, ga3, ga4, ga5, ga6, ga7, ga8, ga9, ga10, ga11, ga12⟩ := HQ.out.1
       obtain ⟨qr, ⟨lc0, lc1, lc2, lc3, lc4, lc5, lc6, lc7, lc8, lc9, lc10, lc11, lc12⟩, gc0, gc1, gc2, gc3, gc4, gc5, gc6, gc7, gc8, gc9, gc10, gc11, gc12⟩ := HQ.out.2.1
       obtain ⟨qa, ⟨a0, a1, a2, a3⟩, af0, af1, af2, af3⟩ := HGA.out.1
       obtain ⟨qb, ⟨b0, b1, b2, b3⟩, bf0, bf1, bf2, bf3⟩ := HGA.out.2
       go_wp2_with fail
       refine (c3 _).mono ?_
       rintro e w3 ⟨rfl, E3⟩
       replace HQ : Hid (BlkX w3 W.heap.size t (.slice pp ln cl) ∧ BlkX w3 (W.heap.size + 1) tz (.slice none 0 0) ∧ Ext W w3) := ⟨HQ.out.1.ext E3, HQ.out.2.1.ext E3, HQ.out.2.2.trans E3⟩
       replace HGA : Hid (Blk w3 ga (.int .i64 r.1) (.int .i64 r.2.1) (.bool r.2.2.1) (.bool r.2.2.2) ∧ Blk w3 gb (.int .i64 q.1) (.int .i64 q.2.1) (.bool q.2.2.1) (.bool q.2.2.2)) := ⟨HGA.out.1.ext E3, HGA.out.2.ext E3⟩
       clear E3 la0 la1 la2 la3 la4 la5 la6 la7 la8 la9 la10 la11 la12 ga0 ga1 ga2 ga3 ga4 ga5 ga6 ga7 ga8 ga9 ga10 ga11 ga12 lc0 lc1 lc2 lc3 lc4 lc5 lc6 lc7 lc8 lc9 lc10 lc11 lc12 gc0 gc1 gc2 gc3 gc4 gc5 gc6 gc7 gc8 gc9 gc10 gc11 gc12 a0 a1 a2 a3 b0 b1 b2 b3 af0 af1 af2 af3 bf0 bf1 bf2 bf3 qe qr qa qb
       obtain ⟨qe, ⟨la0, la1, la2, la3, la4, la5, la6, la7, la8, la9, la10, la11, la12⟩, ga0, ga1, ga2, ga3, ga4, ga5, ga6, ga7, ga8, ga9, ga10, ga11, ga12⟩ := HQ.out.1
       obtain ⟨qr, ⟨lc0, lc1, lc2, lc3, lc4, lc5, lc6, lc7, lc8, lc9, lc10, lc11, lc12⟩, gc0, gc1, gc2, gc3, gc4, gc5, gc6, gc7, gc8, gc9, gc10, gc11, gc12⟩ := HQ.out.2.1
       obtain ⟨qa, ⟨a0, a1, a2, a3⟩, af0, af1, af2, af3⟩ := HGA.out.1
       obtain ⟨qb, ⟨b0, b1, b2, b3⟩, bf0, bf1, bf2, bf3⟩ := HGA.out.2
       go_wp2_with fail
       show bodyPost Try.prog _ _ _ _ (putX w3 (W.heap.size + 1) (tErr 1) (.slice none 0 0))
       rw [HX.out]
       exact endR (HQ.out.2.1.put (tErr 1) (.slice none 0 0)) rfl ⟨none, 0, 0, rfl, .nil, putX_E HQ.out.2.2 (by omega) _ _⟩ (fun h0 h1 h2 h3 h4 h5 h6 h7 h8 h9 h10 h11 h12 => by simp [results, Try.results49, go_sem, h0, h1, h2, h3, h4, h5, h6, h7, h8, h9, h10, h11, h12, aggX])
     · rw [hb] at c3
       cases hb2 : inB q.1 q.2.1
       · have HX : Hid (mpT (fiE row col) (n + 1) t = tErr 1) := by show _ = _; rw [HX0.out, HF.out]; exact if_pos (.inr ⟨k5, by rw [hb, hb2]; rfl⟩)
         rw [hb2] at c4
         clear k4 k5 hb hb2 HX0 HF c0
         obtain ⟨qe, ⟨la0, la1, la2, la3, la4, la5, la6, la7, la8, la9, la10, la11, la12⟩, ga0, ga1, ga2, ga3, ga4, ga5, ga6, ga7, ga8, ga9, ga10, ga11, ga12⟩ := HQ.out.1
         obtain ⟨qr, ⟨lc0, lc1, lc2, lc3, lc4, lc5, lc6, lc7, lc8, lc9, lc10, lc11, lc12⟩, gc0, gc1, gc2, gc3, gc4, gc5, gc6, gc7, gc8, gc9, gc10, gc11, gc12⟩ := HQ.out.2.1
         obtain ⟨qa, ⟨a0, a1, a2, a3⟩, af0, af1, af2, af3⟩ := HGA.out.1
         obtain ⟨qb, ⟨b0, b1, b2, b3⟩, bf0, bf1, bf2, bf3⟩ := HGA.out.2
         go_wp2_with fail
         refine (c3 _).mono ?_
         rintro e w3 ⟨rfl, E3⟩
         replace HQ : Hid (BlkX w3 W.heap.size t (.slice pp ln cl) ∧ BlkX w3 (W.heap.size + 1) tz (.slice none 0 0) ∧ Ext W w3) := ⟨HQ.out.1.ext E3, HQ.out.2.1.ext E3, HQ.out.2.2.trans E3⟩
         replace HGA : Hid (Blk w3 ga (.int .i64 r.1) (.int .i64 r.2.1) (.bool r.2.2.1) (.bool r.2.2.2) ∧ Blk w3 gb (.int .i64 q.1) (.int .i64 q.2.1) (.bool q.2.2.1) (.bool q.2.2.2)) := ⟨HGA.out.1.ext E3, HGA.out.2.ext E3⟩
         clear E3 la0 la1 la2 la3 la4 la5 la6 la7 la8 la9 la10 la11 la12 ga0 ga1 ga2 ga3 ga4 ga5 ga6 ga7 ga8 ga9 ga10 ga11 ga12 lc0 lc1 lc2 lc3 lc4 lc5 lc6 lc7 lc8 lc9 lc10 lc11 lc12 gc0 gc1 gc2 gc3 gc4 gc5 gc6 gc7 gc8 gc9 gc10 gc11 gc12 a0 a1 a2 a3 b0 b1 b2 b3 af0 af1 af2 af3 bf0 bf1 bf2 bf3 qe qr qa qb
         obtain ⟨qe, ⟨la0, la1, la2, la3, la4, la5, la6, la7, la8, la9, la10, la11, la12⟩, ga0, ga1, ga2, ga3, ga4, ga5, ga6, ga7, ga8, ga9, ga10, ga11, ga12⟩ := HQ.out.1
         obtain ⟨qr, ⟨lc0, lc1, lc2, lc3, lc4, lc5, lc6, lc7, lc8, lc9, lc10, lc11, lc12⟩, gc0, gc1, gc2, gc3, gc4, gc5, gc6, gc7, gc8, gc9, gc10, gc11, gc12⟩ := HQ.out.2.1
         obtain ⟨qa, ⟨a0, a1, a2, a3⟩, af0, af1, af2, af3⟩ := HGA.out.1
         obtain ⟨qb, ⟨b0, b1, b2, b3⟩, bf0, bf1, bf2, bf3⟩ := HGA.out.2
         go_wp2_with fail
         refine (c4 _).mono ?_
         rintro e w4 ⟨rfl, E4⟩
         replace HQ : Hid (BlkX w4 W.heap.size t (.slice pp ln cl) ∧ BlkX w4 (W.heap.size + 1) tz (.slice none 0 0) ∧ Ext W w4) := ⟨HQ.out.1.ext E4, HQ.out.2.1.ext E4, HQ.out.2.2.trans E4⟩
         replace HGA : Hid (Blk w4 ga (.int .i64 r.1) (.int .i64 r.2.1) (.bool r.2.2.1) (.bool r.2.2.2) ∧ Blk w4 gb (.int .i64 q.1) (.int .i64 q.2.1) (.bool q.2.2.1) (.bool q.2.2.2)) := ⟨HGA.out.1.ext E4, HGA.out.2.ext E4⟩
         clear E4 la0 la1 la2 la3 la4 la5 la6 la7 la8 la9 la10 la11 la12 ga0 ga1 ga2 ga3 ga4 ga5 ga6 ga7 ga8 ga9 ga10 ga11 ga12 lc0 lc1 lc2 lc3 lc4 lc5 lc6 lc7 lc8 lc9 lc10 lc11 lc12 gc0 gc1 gc2 gc3 gc4 gc5 gc6 gc7 gc8 gc9 gc10 gc11 gc12 a0 a1 a2 a3 b0 b1 b2 b3 af0 af1 af2 af3 bf0 bf1 bf2 bf3 qe qr qa qb
         obtain ⟨qe, ⟨la0, la1, la2, la3, la4, la5, la6, la7, la8, la9, la10, la11, la12⟩, ga0, ga1, ga2, ga3, ga4, ga5, ga6, ga7, ga8, ga9, ga10, ga11, ga12⟩ := HQ.out.1
         obtain ⟨qr, ⟨lc0, lc1, lc2, lc3, lc4, lc5, lc6, lc7, lc8, lc9, lc10, lc11, lc12⟩, gc0, gc1, gc2, gc3, gc4, gc5, gc6, gc7, gc8, gc9, gc10, gc11, gc12⟩ := HQ.out.2.1
         obtain ⟨qa, ⟨a0, a1, a2, a3⟩, af0, af1, af2, af3⟩ := HGA.out.1
         obtain ⟨qb, ⟨b0, b1, b2, b3⟩, bf0, bf1, bf2, bf3⟩ := HGA.out.2
         go_wp2_with fail
         show bodyPost Try.prog _ _ _ _ (putX w4 (W.heap.size + 1) (tErr 1) (.slice none 0 0))
         rw [HX.out]
         exact endR (HQ.out.2.1.put (tErr 1) (.slice none 0 0)) rfl ⟨none, 0, 0, rfl, .nil, putX_E HQ.out.2.2 (by omega) _ _⟩ (fun h0 h1 h2 h3 h4 h5 h6 h7 h8 h9 h10 h11 h12 => by simp [results, Try.results49, go_sem, h0, h1, h2, h3, h4, h5, h6, h7, h8, h9, h10, h11, h12, aggX])
       · have HX : Hid (mpT (fiE row col) (n + 1) t = t.wRQ r q) := by show _ = _; rw [HX0.out, HF.out]; rw [if_neg (by simp [k4, hb, hb2]), if_neg k4, if_pos k5]
         rw [hb2] at c4
         clear k4 k5 hb hb2 HX0 HF
         have ha1 : ¬ ga = W.heap.size := by omega
         have ha2 : ¬ W.heap.size = ga := by omega
         have hb1 : ¬ gb = W.heap.size := by omega
         have hb2 : ¬ W.heap.size = gb := by omega
         obtain ⟨qe, ⟨la0, la1, la2, la3, la4, la5, la6, la7, la8, la9, la10, la11, la12⟩, ga0, ga1, ga2, ga3, ga4, ga5, ga6, ga7, ga8, ga9, ga10, ga11, ga12⟩ := HQ.out.1
         obtain ⟨qr, ⟨lc0, lc1, lc2, lc3, lc4, lc5, lc6, lc7, lc8, lc9, lc10, lc11, lc12⟩, gc0, gc1, gc2, gc3, gc4, gc5, gc6, gc7, gc8, gc9, gc10, gc11, gc12⟩ := HQ.out.2.1
         obtain ⟨qa, ⟨a0, a1, a2, a3⟩, af0, af1, af2, af3⟩ := HGA.out.1
         obtain ⟨qb, ⟨b0, b1, b2, b3⟩, bf0, bf1, bf2, bf3⟩ := HGA.out.2
         go_wp2_with fail
         refine (c3 _).mono ?_
         rintro e w3 ⟨rfl, E3⟩
         replace HQ : Hid (BlkX w3 W.heap.size t (.slice pp ln cl) ∧ BlkX w3 (W.heap.size + 1) tz (.slice none 0 0) ∧ Ext W w3) := ⟨HQ.out.1.ext E3, HQ.out.2.1.ext E3, HQ.out.2.2.trans E3⟩
         replace HGA : Hid (Blk w3 ga (.int .i64 r.1) (.int .i64 r.2.1) (.bool r.2.2.1) (.bool r.2.2.2) ∧ Blk w3 gb (.int .i64 q.1) (.int .i64 q.2.1) (.bool q.2.2.1) (.bool q.2.2.2)) := ⟨HGA.out.1.ext E3, HGA.out.2.ext E3⟩
         clear E3 la0 la1 la2 la3 la4 la5 la6 la7 la8 la9 la10 la11 la12 ga0 ga1 ga2 ga3 ga4 ga5 ga6 ga7 ga8 ga9 ga10 ga11 ga12 lc0 lc1 lc2 lc3 lc4 lc5 lc6 lc7 lc8 lc9 lc10 lc11 lc12 gc0 gc1 gc2 gc3 gc4 gc5 gc6 gc7 gc8 gc9 gc10 gc11 gc12 a0 a1 a2 a3 b0 b1 b2 b3 af0 af1 af2 af3 bf0 bf1 bf2 bf3 qe qr qa qb
         obtain ⟨qe, ⟨la0, la1, la2, la3, la4, la5, la6, la7, la8, la9, la10, la11, la12⟩, ga0, ga1, ga2, ga3, ga4, ga5, ga6, ga7, ga8, ga9, ga10, ga11, ga12⟩ := HQ.out.1
         obtain ⟨qr, ⟨lc0, lc1, lc2, lc3, lc4, lc5, lc6, lc7, lc8, lc9, lc10, lc11, lc12⟩, gc0, gc1, gc2, gc3, gc4, gc5, gc6, gc7, gc8, gc9, gc10, gc11, gc12⟩ := HQ.out.2.1
         obtain ⟨qa, ⟨a0, a1, a2, a3⟩, af0, af1, af2, af3⟩ := HGA.out.1
         obtain ⟨qb, ⟨b0, b1, b2, b3⟩, bf0, bf1, bf2, bf3⟩ := HGA.out.2
         go_wp2_with fail
         refine (c4 _).mono ?_
         rintro e w4 ⟨rfl, E4⟩
         replace HQ : Hid (BlkX w4 W.heap.size t (.slice pp ln cl) ∧ BlkX w4 (W.heap.size + 1) tz (.slice none 0 0) ∧ Ext W w4) := ⟨HQ.out.1.ext E4, HQ.out.2.1.ext E4, HQ.out.2.2.trans E4⟩
         replace HGA : Hid (Blk w4 ga (.int .i64 r.1) (.int .i64 r.2.1) (.bool r.2.2.1) (.bool r.2.2.2) ∧ Blk w4 gb (.int .i64 q.1) (.int .i64 q.2.1) (.bool q.2.2.1) (.bool q.2.2.2)) := ⟨HGA.out.1.ext E4, HGA.out.2.ext E4⟩
         clear E4 la0 la1 la2 la3 la4 la5 la6 la7 la8 la9 la10 la11 la12 ga0 ga1 ga2 ga3 ga4 ga5 ga6 ga7 ga8 ga9 ga10 ga11 ga12 lc0 lc1 lc2 lc3 lc4 lc5 lc6 lc7 lc8 lc9 lc10 lc11 lc12 gc0 gc1 gc2 gc3 gc4 gc5 gc6 gc7 gc8 gc9 gc10 gc11 gc12 a0 a1 a2 a3 b0 b1 b2 b3 af0 af1 af2 af3 bf0 bf1 bf2 bf3 qe qr qa qb
         obtain ⟨qe, ⟨la0, la1, la2, la3, la4, la5, la6, la7, la8, la9, la10, la11, la12⟩, ga0, ga1, ga2, ga3, ga4, ga5, ga6, ga7, ga8, ga9, ga10, ga11, ga12⟩ := HQ.out.1
         obtain ⟨qr, ⟨lc0, lc1, lc2, lc3, lc4, lc5, lc6, lc7, lc8, lc9, lc10, lc11, lc12⟩, gc0, gc1, gc2, gc3, gc4, gc5, gc6, gc7, gc8, gc9, gc10, gc11, gc12⟩ := HQ.out.2.1
         obtain ⟨qa, ⟨a0, a1, a2, a3⟩, af0, af1, af2, af3⟩ := HGA.out.1
         obtain ⟨qb, ⟨b0, b1, b2, b3⟩, bf0, bf1, bf2, bf3⟩ := HGA.out.2
         go_upto_region 6 with fail
         have E5 : Ext W ((((w4.setCell ⟨W.heap.size, 4, none⟩ (.int .i64 r.1)).setCell ⟨W.heap.size, 5, none⟩ (.int .i64 r.2.1)).setCell ⟨W.heap.size, 6, none⟩ (.bool r.2.2.1)).setCell ⟨W.heap.size, 7, none⟩ (.bool r.2.2.2)) := ((((HQ.out.2.2).setCell (p := ⟨W.heap.size, 4, none⟩) (Nat.le_refl _) _).setCell (p := ⟨W.heap.size, 5, none⟩) (Nat.le_refl _) _).setCell (p := ⟨W.heap.size, 6, none⟩) (Nat.le_refl _) _).setCell (p := ⟨W.heap.size, 7, none⟩) (Nat.le_refl _) _
         have A5 : BlkX ((((w4.setCell ⟨W.heap.size, 4, none⟩ (.int .i64 r.1)).setCell ⟨W.heap.size, 5, none⟩ (.int .i64 r.2.1)).setCell ⟨W.heap.size, 6, none⟩ (.bool r.2.2.1)).setCell ⟨W.heap.size, 7, none⟩ (.bool r.2.2.2)) W.heap.size (t.wR r) (.slice pp ln cl) := Blk13.put7 (Blk13.put6 (Blk13.put5 (Blk13.put4 HQ.out.1 _) _) _) _
         have B5 : BlkX ((((w4.setCell ⟨W.heap.size, 4, none⟩ (.int .i64 r.1)).setCell ⟨W.heap.size, 5, none⟩ (.int .i64 r.2.1)).setCell ⟨W.heap.size, 6, none⟩ (.bool r.2.2.1)).setCell ⟨W.heap.size, 7, none⟩ (.bool r.2.2.2)) (W.heap.size + 1) tz (.slice none 0 0) := Blk13.far1 (Blk13.far1 (Blk13.far1 (Blk13.far1 (HQ.out.2.1) (by omega) 4 _) (by omega) 5 _) (by omega) 6 _) (by omega) 7 _
         have C5 : Blk ((((w4.setCell ⟨W.heap.size, 4, none⟩ (.int .i64 r.1)).setCell ⟨W.heap.size, 5, none⟩ (.int .i64 r.2.1)).setCell ⟨W.heap.size, 6, none⟩ (.bool r.2.2.1)).setCell ⟨W.heap.size, 7, none⟩ (.bool r.2.2.2)) gb (.int .i64 q.1) (.int .i64 q.2.1) (.bool q.2.2.1) (.bool q.2.2.2) := ((((HGA.out.2).far1 (c := W.heap.size) (by omega) 4 _).far1 (c := W.heap.size) (by omega) 5 _).far1 (c := W.heap.size) (by omega) 6 _).far1 (c := W.heap.size) (by omega) 7 _
         clear la0 la1 la2 la3 la4 la5 la6 la7 la8 la9 la10 la11 la12 ga0 ga1 ga2 ga3 ga4 ga5 ga6 ga7 ga8 ga9 ga10 ga11 ga12 lc0 lc1 lc2 lc3 lc4 lc5 lc6 lc7 lc8 lc9 lc10 lc11 lc12 gc0 gc1 gc2 gc3 gc4 gc5 gc6 gc7 gc8 gc9 gc10 gc11 gc12 a0 a1 a2 a3 b0 b1 b2 b3 af0 af1 af2 af3 bf0 bf1 bf2 bf3 qe qr qa qb
         generalize (((w4.setCell ⟨W.heap.size, 4, none⟩ (.int .i64 r.1)).setCell ⟨W.heap.size, 5, none⟩ (.int .i64 r.2.1)).setCell ⟨W.heap.size, 6, none⟩ (.bool r.2.2.1)).setCell ⟨W.heap.size, 7, none⟩ (.bool r.2.2.2) = w5 at *
         replace HQ : Hid (BlkX w5 W.heap.size (t.wR r) (.slice pp ln cl) ∧ BlkX w5 (W.heap.size + 1) tz (.slice none 0 0) ∧ Ext W w5) := ⟨A5, B5, E5⟩
         obtain ⟨qe, ⟨la0, la1, la2, la3, la4, la5, la6, la7, la8, la9, la10, la11, la12⟩, ga0, ga1, ga2, ga3, ga4, ga5, ga6, ga7, ga8, ga9, ga10, ga11, ga12⟩ := A5
         obtain ⟨qr, ⟨lc0, lc1, lc2, lc3, lc4, lc5, lc6, lc7, lc8, lc9, lc10, lc11, lc12⟩, gc0, gc1, gc2, gc3, gc4, gc5, gc6, gc7, gc8, gc9, gc10, gc11, gc12⟩ := B5
         obtain ⟨qb, ⟨b0, b1, b2, b3⟩, bf0, bf1, bf2, bf3⟩ := C5
         have e5 : ((t.wR r).k == 5) = true := e5
         clear E5 HGA
         go_wp2_with fail
         refine (c0 _).mono ?_
         rintro e w6 ⟨rfl, rfl⟩
         go_wp2_with fail
         show bodyPost Try.prog _ _ _ _ (putX ((((w5.setCell ⟨W.heap.size, 8, none⟩ (.int .i64 q.1)).setCell ⟨W.heap.size, 9, none⟩ (.int .i64 q.2.1)).setCell ⟨W.heap.size, 10, none⟩ (.bool q.2.2.1)).setCell ⟨W.heap.size, 11, none⟩ (.bool q.2.2.2)) (W.heap.size + 1) (t.wRQ r q) (.slice pp ln cl))
         rw [HX.out]
         have E4 : Ext W ((((w5.setCell ⟨W.heap.size, 8, none⟩ (.int .i64 q.1)).setCell ⟨W.heap.size, 9, none⟩ (.int .i64 q.2.1)).setCell ⟨W.heap.size, 10, none⟩ (.bool q.2.2.1)).setCell ⟨W.heap.size, 11, none⟩ (.bool q.2.2.2)) := ((((HQ.out.2.2).setCell (p := ⟨W.heap.size, 8, none⟩) (Nat.le_refl _) _).setCell (p := ⟨W.heap.size, 9, none⟩) (Nat.le_refl _) _).setCell (p := ⟨W.heap.size, 10, none⟩) (Nat.le_refl _) _).setCell (p := ⟨W.heap.size, 11, none⟩) (Nat.le_refl _) _
         have B4 : BlkX ((((w5.setCell ⟨W.heap.size, 8, none⟩ (.int .i64 q.1)).setCell ⟨W.heap.size, 9, none⟩ (.int .i64 q.2.1)).setCell ⟨W.heap.size, 10, none⟩ (.bool q.2.2.1)).setCell ⟨W.heap.size, 11, none⟩ (.bool q.2.2.2)) (W.heap.size + 1) tz (.slice none 0 0) := Blk13.far1 (Blk13.far1 (Blk13.far1 (Blk13.far1 (HQ.out.2.1) (by omega) 8 _) (by omega) 9 _) (by omega) 10 _) (by omega) 11 _
         generalize (((w5.setCell ⟨W.heap.size, 8, none⟩ (.int .i64 q.1)).setCell ⟨W.heap.size, 9, none⟩ (.int .i64 q.2.1)).setCell ⟨W.heap.size, 10, none⟩ (.bool q.2.2.1)).setCell ⟨W.heap.size, 11, none⟩ (.bool q.2.2.2) = w9 at *
         exact endR (B4.put (t.wRQ r q) (.slice pp ln cl)) rfl ⟨pp, ln, cl, rfl, (HI.out.mono (P' := fun k => k < W.heap.size ∧ P k) (fun k hk hs => ⟨hs, hk⟩)).keep (putX_E E4 (by omega) _ _).sz (fun k hk hs => (putX_E E4 (by omega) (t.wRQ r q) (.slice pp ln cl)).block k hs) (fun k hk _ => .inl hk.2), putX_E E4 (by omega) _ _⟩ (fun h0 h1 h2 h3 h4 h5 h6 h7 h8 h9 h10 h11 h12 => by simp [results, Try.results49, go_sem, h0, h1, h2, h3, h4, h5, h6, h7, h8, h9, h10, h11, h12, aggX])
   · have e4 : (t.k == 4) = false := by simpa using k4
     have e5 : (t.k == 5) = false := by simpa using k5
     have HX : Hid (mpT (fiE row col) (n + 1) t = t) := by show _ = _; rw [HX0.out, HF.out]; rw [if_neg (by simp [k4, k5]), if_neg k4, if_neg k5]
     clear k4 k5 HX0 HF c3 c4
     obtain ⟨qe, ⟨la0, la1, la2, la3, la4, la5, la6, la7, la8, la9, la10, la11, la12⟩, ga0, ga1, ga2, ga3, ga4, ga5, ga6, ga7, ga8, ga9, ga10, ga11, ga12⟩ := HQ.out.1
     obtain ⟨qr, ⟨lc0, lc1, lc2, lc3, lc4, lc5, lc6, lc7, lc8, lc9, lc10, lc11, lc12⟩, gc0, gc1, gc2, gc3, gc4, gc5, gc6, gc7, gc8, gc9, gc10, gc11, gc12⟩ := HQ.out.2.1
     obtain ⟨qa, ⟨a0, a1, a2, a3⟩, af0, af1, af2, af3⟩ := HGA.out.1
     obtain ⟨qb, ⟨b0, b1, b2, b3⟩, bf0, bf1, bf2, bf3⟩ := HGA.out.2
     go_wp2_with fail
     refine (c0 _).mono ?_
     rintro e w6 ⟨rfl, rfl⟩
     go_wp2_with fail
     show bodyPost Try.prog _ _ _ _ (putX (w6) (W.heap.size + 1) (t) (.slice pp ln cl))
     rw [HX.out]
     have E4 : Ext W (w6) := HQ.out.2.2
     have B4 : BlkX (w6) (W.heap.size + 1) tz (.slice none 0 0) := HQ.out.2.1
     generalize w6 = w9 at *
     exact endR (B4.put (t) (.slice pp ln cl)) rfl ⟨pp, ln, cl, rfl, (HI.out.mono (P' := fun k => k < W.heap.size ∧ P k) (fun k hk hs => ⟨hs, hk⟩)).keep (putX_E E4 (by omega) _ _).sz (fun k hk hs => (putX_E E4 (by omega) (t) (.slice pp ln cl)).block k hs) (fun k hk _ => .inl hk.2), putX_E E4 (by omega) _ _⟩ (fun h0 h1 h2 h3 h4 h5 h6 h7 h8 h9 h10 h11 h12 => by simp [results, Try.results49, go_sem, h0, h1, h2, h3, h4, h5, h6, h7, h8, h9, h10, h11, h12, aggX])

open Go.RowKit
set_option maxHeartbeats 6000000

set_option maxRecDepth 100000 in
theorem rfill_n (n : Nat) (t : T) (row col : Int) (hp : t.k = 6 ∨ t.k = 7 ∨ t.k = 8) (hl : t.l.length ≤ 100000) (ih : ∀ x ∈ t.l, ∀ (P : Nat → Prop) (W : World) (pp : Option Addr) (ln cl : Nat), IsL W P (.slice pp ln cl) x.l → Calls Try.prog 49 #[.agg #[.int .i64 x.k, .int .i64 x.n, .string (bs x.s), .int .i64 x.e, .int .i64 x.r.1, .int .i64 x.r.2.1, .bool x.r.2.2.1, .bool x.r.2.2.2, .int .i64 x.q.1, .int .i64 x.q.2.1, .bool x.q.2.2.1, .bool x.q.2.2.2, .slice pp ln cl], .int .i64 row, .int .i64 col] W (DcQ P W (mpT (fiE row col) n x))) (P : Nat → Prop) (W : World) (pp : Option Addr) (ln cl : Nat) (hL : IsL W P (.slice pp ln cl) t.l) :
   Calls Try.prog 49 #[.agg #[.int .i64 t.k, .int .i64 t.n, .string (bs t.s), .int .i64 t.e, .int .i64 t.r.1, .int .i64 t.r.2.1, .bool t.r.2.2.1, .bool t.r.2.2.2, .int .i64 t.q.1, .int .i64 t.q.2.1, .bool t.q.2.2.1, .bool t.q.2.2.2, .slice pp ln cl], .int .i64 row, .int .i64 col] W (DcQ P W (mpT (fiE row col) (n + 1) t)) := by
 have hpb : prB t.k = true := by unfold prB; simpa using hp
 have HX : Hid (mpT (fiE row col) (n + 1) t = t.wL (t.l.map (mpT (fiE row col) n))) := by
   show _ = _
   rw [mpT, hpb]
   exact fiE_node _ _ _ hp
 have hln : ln = t.l.length := by
   obtain ⟨p, c, h1, _⟩ := hL.form
   cases h1; rfl
 have HI : Hid (IsL W (fun k => P k ∧ k < W.heap.size) (.slice pp ln cl) t.l) := hL.mono (fun k hk hs => ⟨hk, hs⟩)
 have HLN : Hid (ln = t.l.length) := hln
 have HIH : Hid (∀ x ∈ t.l, ∀ (P : Nat → Prop) (W : World) (pp : Option Addr) (ln cl : Nat), IsL W P (.slice pp ln cl) x.l → Calls Try.prog 49 #[.agg #[.int .i64 x.k, .int .i64 x.n, .string (bs x.s), .int .i64 x.e, .int .i64 x.r.1, .int .i64 x.r.2.1, .bool x.r.2.2.1, .bool x.r.2.2.2, .int .i64 x.q.1, .int .i64 x.q.2.1, .bool x.q.2.2.1, .bool x.q.2.2.2, .slice pp ln cl], .int .i64 row, .int .i64 col] W (DcQ P W (mpT (fiE row col) n x))) := ih
 have hl2 : ln ≤ 100000 := by omega
 have c0 := fun V => rparts10_any t.k V
 rw [hpb] at c0
 have e4 : (t.k == 4) = false := by simp; omega
 have e5 : (t.k == 5) = false := by simp; omega
 have c1 := fun V => rmoved_any t.r row col V
 have c2 := fun V => rmoved_any t.q row col V
 obtain ⟨r, hr⟩ : ∃ r, mvF row col t.r = r := ⟨_, rfl⟩
 obtain ⟨q, hq⟩ : ∃ q, mvF row col t.q = q := ⟨_, rfl⟩
 rw [hr] at c1
 rw [hq] at c2
 clear hL hln ih hl hp hpb hr hq
 go_enter Try.func49, Try.ntmps49
 go_upto_region 1 with fail
 have HBX : Hid (Ext W ((W.alloc (.cells #[.int .i64 t.k, .int .i64 t.n, .string (bs t.s), .int .i64 t.e, .int .i64 t.r.1, .int .i64 t.r.2.1, .bool t.r.2.2.1, .bool t.r.2.2.2, .int .i64 t.q.1, .int .i64 t.q.2.1, .bool t.q.2.2.1, .bool t.q.2.2.2, .slice pp ln cl] 26)).alloc (.cells #[.int .i64 0, .int .i64 0, .string ⟨#[]⟩, .int .i64 0, .int .i64 0, .int .i64 0, .bool false, .bool false, .int .i64 0, .int .i64 0, .bool false, .bool false, .slice none 0 0] 26)) ∧ BlkX ((W.alloc (.cells #[.int .i64 t.k, .int .i64 t.n, .string (bs t.s), .int .i64 t.e, .int .i64 t.r.1, .int .i64 t.r.2.1, .bool t.r.2.2.1, .bool t.r.2.2.2, .int .i64 t.q.1, .int .i64 t.q.2.1, .bool t.q.2.2.1, .bool t.q.2.2.2, .slice pp ln cl] 26)).alloc (.cells #[.int .i64 0, .int .i64 0, .string ⟨#[]⟩, .int .i64 0, .int .i64 0, .int .i64 0, .bool false, .bool false, .int .i64 0, .int .i64 0, .bool false, .bool false, .slice none 0 0] 26)) W.heap.size t (.slice pp ln cl) ∧ BlkX ((W.alloc (.cells #[.int .i64 t.k, .int .i64 t.n, .string (bs t.s), .int .i64 t.e, .int .i64 t.r.1, .int .i64 t.r.2.1, .bool t.r.2.2.1, .bool t.r.2.2.2, .int .i64 t.q.1, .int .i64 t.q.2.1, .bool t.q.2.2.1, .bool t.q.2.2.2, .slice pp ln cl] 26)).alloc (.cells #[.int .i64 0, .int .i64 0, .string ⟨#[]⟩, .int .i64 0, .int .i64 0, .int .i64 0, .bool false, .bool false, .int .i64 0, .int .i64 0, .bool false, .bool false, .slice none 0 0] 26)) (W.heap.size + 1) tz (.slice none 0 0)) := ⟨((Ext.refl _).alloc _).alloc _, blk13_top rfl ((Ext.refl _).alloc _), BlkX.top (by simp) (Ext.refl _)⟩
 have HW1s : Hid (W.heap.size + 1 + 1 = ((W.alloc (.cells #[.int .i64 t.k, .int .i64 t.n, .string (bs t.s), .int .i64 t.e, .int .i64 t.r.1, .int .i64 t.r.2.1, .bool t.r.2.2.1, .bool t.r.2.2.2, .int .i64 t.q.1, .int .i64 t.q.2.1, .bool t.q.2.2.1, .bool t.q.2.2.2, .slice pp ln cl] 26)).alloc (.cells #[.int .i64 0, .int .i64 0, .string ⟨#[]⟩, .int .i64 0, .int .i64 0, .int .i64 0, .bool false, .bool false, .int .i64 0, .int .i64 0, .bool false, .bool false, .slice none 0 0] 26)).heap.size) := by show _ = _; simp
 generalize ((W.alloc (.cells #[.int .i64 t.k, .int .i64 t.n, .string (bs t.s), .int .i64 t.e, .int .i64 t.r.1, .int .i64 t.r.2.1, .bool t.r.2.2.1, .bool t.r.2.2.2, .int .i64 t.q.1, .int .i64 t.q.2.1, .bool t.q.2.2.1, .bool t.q.2.2.2, .slice pp ln cl] 26)).alloc (.cells #[.int .i64 0, .int .i64 0, .string ⟨#[]⟩, .int .i64 0, .int .i64 0, .int .i64 0, .bool false, .bool false, .int .i64 0, .int .i64 0, .bool false, .bool false, .slice none 0 0] 26)) = W1 at *
 obtain ⟨N1, hN1⟩ : ∃ N, W.heap.size + 1 = N := ⟨_, rfl⟩
 have HNW : Hid (W.heap.size + 1 = N1) := hN1
 clear hN1
 have mkS : Hid (∀ V, Ext W1 V → V.cell? ⟨W.heap.size, 0, none⟩ = some (.int .i64 t.k) ∧ V.cell? ⟨W.heap.size, 1, none⟩ = some (.int .i64 t.n) ∧ V.cell? ⟨W.heap.size, 2, none⟩ = some (.string (bs t.s)) ∧ V.cell? ⟨W.heap.size, 3, none⟩ = some (.int .i64 t.e) ∧ V.cell? ⟨W.heap.size, 4, none⟩ = some (.int .i64 t.r.1) ∧ V.cell? ⟨W.heap.size, 5, none⟩ = some (.int .i64 t.r.2.1) ∧ V.cell? ⟨W.heap.size, 6, none⟩ = some (.bool t.r.2.2.1) ∧ V.cell? ⟨W.heap.size, 7, none⟩ = some (.bool t.r.2.2.2) ∧ V.cell? ⟨W.heap.size, 8, none⟩ = some (.int .i64 t.q.1) ∧ V.cell? ⟨W.heap.size, 9, none⟩ = some (.int .i64 t.q.2.1) ∧ V.cell? ⟨W.heap.size, 10, none⟩ = some (.bool t.q.2.2.1) ∧ V.cell? ⟨W.heap.size, 11, none⟩ = some (.bool t.q.2.2.2) ∧ V.cell? ⟨W.heap.size, 12, none⟩ = some (.slice pp ln cl)) := fun V e => (HBX.out.2.1.ext e).2.1
 go_cut [7, 8] (fun pa pb wx => ∃ ga gb : Nat, pa = .pointer (some ⟨ga, 0, none⟩) ∧ pb = .pointer (some ⟨gb, 0, none⟩) ∧ Blk wx ga (.int .i64 r.1) (.int .i64 r.2.1) (.bool r.2.2.1) (.bool r.2.2.2) ∧ Blk wx gb (.int .i64 q.1) (.int .i64 q.2.1) (.bool q.2.2.1) (.bool q.2.2.2) ∧ Ext W1 wx ∧ N1 < ga ∧ N1 < gb)
 case first =>
   clear HX HI HLN HIH hl2 c0 e4 e5
   refine bar_begin (B := fun _ => false) (S := fun V => V.cell? ⟨W.heap.size, 0, none⟩ = some (.int .i64 t.k) ∧ V.cell? ⟨W.heap.size, 1, none⟩ = some (.int .i64 t.n) ∧ V.cell? ⟨W.heap.size, 2, none⟩ = some (.string (bs t.s)) ∧ V.cell? ⟨W.heap.size, 3, none⟩ = some (.int .i64 t.e) ∧ V.cell? ⟨W.heap.size, 4, none⟩ = some (.int .i64 t.r.1) ∧ V.cell? ⟨W.heap.size, 5, none⟩ = some (.int .i64 t.r.2.1) ∧ V.cell? ⟨W.heap.size, 6, none⟩ = some (.bool t.r.2.2.1) ∧ V.cell? ⟨W.heap.size, 7, none⟩ = some (.bool t.r.2.2.2) ∧ V.cell? ⟨W.heap.size, 8, none⟩ = some (.int .i64 t.q.1) ∧ V.cell? ⟨W.heap.size, 9, none⟩ = some (.int .i64 t.q.2.1) ∧ V.cell? ⟨W.heap.size, 10, none⟩ = some (.bool t.q.2.2.1) ∧ V.cell? ⟨W.heap.size, 11, none⟩ = some (.bool t.q.2.2.2) ∧ V.cell? ⟨W.heap.size, 12, none⟩ = some (.slice pp ln cl)) (by kernel_rfl) ?_
   obtain ⟨y0, hy0⟩ : ∃ y0, World.drew W1 = y0 := ⟨_, rfl⟩
   have X : Hid (Ext W1 y0) := by show Ext _ _; rw [← hy0]; exact (Ext.refl _).drew
   rw [hy0]
   clear hy0
   have hS0 := mkS.out y0 X.out
   refine bar_take (i := 0) (v := ?v0) rfl (by kernel_rfl) (by kernel_rfl) (by kernel_rfl) (by kernel_rfl) (fun _ _ _ h => h) (Or.inl ⟨by rfl, ?hy0⟩) hS0 ?rest0
   case hy0 => (intro W hSW; (try dsimp only at hSW); go_simp; with_reducible rfl)
   simp only [Act.put, List.setIfInBounds_toArray]
   refine bar_take (i := 1) (v := ?v1) rfl (by kernel_rfl) (by kernel_rfl) (by kernel_rfl) (by kernel_rfl) (fun _ _ _ h => h) (Or.inl ⟨by rfl, ?hy1⟩) hS0 ?rest1
   case hy1 => (intro W hSW; (try dsimp only at hSW); go_simp; with_reducible rfl)
   simp only [Act.put]
   refine bar_take (i := 2) (v := ?v2) rfl (by kernel_rfl) (by kernel_rfl) (by kernel_rfl) (by kernel_rfl) (fun _ _ _ h => h) (Or.inl ⟨by rfl, ?hy2⟩) hS0 ?rest2
   case hy2 => (intro W hSW; (try dsimp only at hSW); go_simp; with_reducible rfl)
   simp only [Act.put]
   refine bar_take (i := 3) (v := ?v3) rfl (by kernel_rfl) (by kernel_rfl) (by kernel_rfl) (by kernel_rfl) (fun _ _ _ h => h) (Or.inl ⟨by rfl, ?hy3⟩) hS0 ?rest3
   case hy3 => (intro W hSW; (try dsimp only at hSW); go_simp; with_reducible rfl)
   simp only [Act.put]
   refine bar_take (i := 5) (v := ?v5) rfl (by kernel_rfl) (by kernel_rfl) (by kernel_rfl) (by kernel_rfl) (fun _ _ _ h => h) (Or.inl ⟨by rfl, ?hy5⟩) hS0 ?rest5
   case hy5 => (intro W hSW; (try dsimp only at hSW); go_simp; with_reducible rfl)
   simp only [Act.put]
   refine bar_take (i := 6) (v := ?v6) rfl (by kernel_rfl) (by kernel_rfl) (by kernel_rfl) (by kernel_rfl) (fun _ _ _ h => h) (Or.inl ⟨by rfl, ?hy6⟩) hS0 ?rest6
   case hy6 => (intro W hSW; (try dsimp only at hSW); go_simp; with_reducible rfl)
   simp only [Act.put]
   refine bar_take (i := 7) (v := ?v7) rfl (by kernel_rfl) (by kernel_rfl) (by kernel_rfl) (by kernel_rfl) (fun _ _ _ h => h) (Or.inl ⟨by rfl, ?hy7⟩) hS0 ?rest7
   case hy7 => (intro W hSW; (try dsimp only at hSW); go_simp; with_reducible rfl)
   simp only [Act.put]
   refine bar_take (i := 8) (v := ?v8) rfl (by kernel_rfl) (by kernel_rfl) (by kernel_rfl) (by kernel_rfl) (fun _ _ _ h => h) (Or.inl ⟨by rfl, ?hy8⟩) hS0 ?rest8
   case hy8 => (intro W hSW; (try dsimp only at hSW); go_simp; with_reducible rfl)
   simp only [Act.put]
   clear hS0
   refine fr_0 (a := t.r) (b := t.q) (r := r) (q := q) (N1 := N1) ?hE y0 X
   case hE =>
     unfold frE
     refine ⟨by have h1 := HNW.out; have h2 := HW1s.out; show N1 + 1 = W1.heap.size; omega, mkS, c1, c2, ?_⟩
     intro ga gb y9 X9 GA NGA GB NGB HD
     go_wp2_with fail
     go_meet
     case rel => exact ⟨ga, gb, rfl, rfl, GA.out, GB.out, X9.out, NGA.out, NGB.out⟩
 case rest =>
   obtain ⟨ga, gb, rfl, rfl, QA, QB, QE, hga, hgb⟩ := hcut
   have HQ : Hid (BlkX wc W.heap.size t (.slice pp ln cl) ∧ BlkX wc (W.heap.size + 1) tz (.slice none 0 0) ∧ Ext W wc) := ⟨HBX.out.2.1.ext QE, HBX.out.2.2.ext QE, HBX.out.1.trans QE⟩
   have hz : W.heap.size + 1 < ga ∧ W.heap.size + 1 < gb := by rw [HNW.out]; exact ⟨hga, hgb⟩
   have HGA : Hid (Blk wc ga (.int .i64 r.1) (.int .i64 r.2.1) (.bool r.2.2.1) (.bool r.2.2.2) ∧ Blk wc gb (.int .i64 q.1) (.int .i64 q.2.1) (.bool q.2.2.1) (.bool q.2.2.2)) := ⟨QA, QB⟩
   clear c1 c2 mkS HBX QA QB QE hga hgb
   obtain ⟨qe, ⟨la0, la1, la2, la3, la4, la5, la6, la7, la8, la9, la10, la11, la12⟩, ga0, ga1, ga2, ga3, ga4, ga5, ga6, ga7, ga8, ga9, ga10, ga11, ga12⟩ := HQ.out.1
   obtain ⟨qr, ⟨lc0, lc1, lc2, lc3, lc4, lc5, lc6, lc7, lc8, lc9, lc10, lc11, lc12⟩, gc0, gc1, gc2, gc3, gc4, gc5, gc6, gc7, gc8, gc9, gc10, gc11, gc12⟩ := HQ.out.2.1
   obtain ⟨qa, ⟨a0, a1, a2, a3⟩, af0, af1, af2, af3⟩ := HGA.out.1
   obtain ⟨qb, ⟨b0, b1, b2, b3⟩, bf0, bf1, bf2, bf3⟩ := HGA.out.2
   go_wp2_with fail
   refine (c0 _).mono ?_
   rintro e wp ⟨rfl, rfl⟩
   clear c0
   go_wp2_with fail
   go_loopw [9, 10] (fun xv iv wr => ∃ (j g cap : Nat) (ps : List (T × Value)), j ≤ ln ∧ xv = .slice (some ⟨g, 0, none⟩) j cap ∧ iv = .int .i64 (j : Int) ∧ ps.length = j ∧ OwY wr (W.heap.size + 1 + 1) (.slice (some ⟨g, 0, none⟩) ps.length cap) ps ∧ (∀ p ∈ ps, IsL wr (fun k => (P k ∧ k < W.heap.size) ∨ (W.heap.size + 1 + 1 ≤ k ∧ k ≠ g)) p.2 p.1.l) ∧ ps.map Prod.fst = (t.l.take j).map (mpT (fiE row col) n) ∧ BlkX wr W.heap.size t (.slice pp ln cl) ∧ BlkX wr (W.heap.size + 1) tz (.slice none 0 0) ∧ Ext W wr) (fun _ iv _ => ln - (intOf iv).toNat)
   case atStart => exact ⟨0, wp.heap.size, 0, [], Nat.zero_le _, rfl, rfl, rfl, OwY.zero rfl rfl (by have := HQ.out.2.1.1; omega), fun p hp => by simp at hp, by simp, HQ.out.1.ext ((Ext.refl _).alloc _), HQ.out.2.1.ext ((Ext.refl _).alloc _), HQ.out.2.2.alloc _⟩
   case round =>
     obtain ⟨j, g, cap, ps, hj, rfl, rfl, hpl, hO, hIs, hps, hB, hB2, hE⟩ := hrel
     have HO : Hid (OwY wr (W.heap.size + 1 + 1) (.slice (some ⟨g, 0, none⟩) ps.length cap) ps ∧ ps.map Prod.fst = (t.l.take j).map (mpT (fiE row col) n) ∧ Ext W wr ∧ ps.length = j ∧ (∀ p ∈ ps, IsL wr (fun k => (P k ∧ k < W.heap.size) ∨ (W.heap.size + 1 + 1 ≤ k ∧ k ≠ g)) p.2 p.1.l)) := ⟨hO, hps, hE, hpl, hIs⟩
     have HB : Hid (BlkX wr W.heap.size t (.slice pp ln cl) ∧ BlkX wr (W.heap.size + 1) tz (.slice none 0 0)) := ⟨hB, hB2⟩
     obtain ⟨qz, ⟨k0, k1, k2, k3, k4, k5, k6, k7, k8, k9, k10, k11, k12⟩, f0, f1, f2, f3, f4, f5, f6, f7, f8, f9, f10, f11, f12⟩ := hB
     have hwr : W.heap.size + 1 < wr.heap.size := hB2.1
     have hgw : g < wr.heap.size ∧ W.heap.size + 1 + 1 ≤ g := by
       rcases hO.2 with ⟨q1, _⟩ | ⟨g', cap', cur, q1, q2, q3, _⟩
       · cases q1
       · cases q1; exact ⟨heap_lt q3, q2⟩
     clear hE hps hO hpl hB2 hIs f0 f1 f2 f3 f4 f5 f6 f7 f8 f9 f10 f11
     by_cases hlt : j < ln
     · have hltI : (j : Int) < (ln : Int) := by omega
       have hI := HI.out.ext HO.out.2.2.1
       obtain ⟨gb, off, x, lv, hpp, hx1, hA1, hgb, hA2, hLx, hce⟩ := hI.at (i := j) (by rw [← HLN.out]; exact hlt)
       clear hA1 hA2
       subst hpp
       obtain ⟨pp, cl', hlv, hcl⟩ := hLx.form
       obtain ⟨ln', hln'⟩ : ∃ ln', x.l.length = ln' := ⟨_, rfl⟩
       rw [hln'] at hlv
       subst hlv
       have HX1 : Hid (t.l[j]? = some x) := hx1
       have HC : Hid (Calls Try.prog 49 #[.agg #[.int .i64 x.k, .int .i64 x.n, .string (bs x.s), .int .i64 x.e, .int .i64 x.r.1, .int .i64 x.r.2.1, .bool x.r.2.2.1, .bool x.r.2.2.2, .int .i64 x.q.1, .int .i64 x.q.2.1, .bool x.q.2.2.1, .bool x.q.2.2.2, .slice pp ln' cl'], .int .i64 row, .int .i64 col] wr (DcQ (fun k => P k ∧ k < W.heap.size) wr (mpT (fiE row col) n x))) := HIH.out x (List.mem_of_getElem? hx1) _ wr pp ln' cl' hLx
       have e0 : wr.cell? ⟨gb, off + j * 13, none⟩ = some (.int .i64 x.k) := hce 0 _ rfl
       have e1 : wr.cell? ⟨gb, off + j * 13 + 1, none⟩ = some (.int .i64 x.n) := hce 1 _ rfl
       have e2 : wr.cell? ⟨gb, off + j * 13 + 2, none⟩ = some (.string (bs x.s)) := hce 2 _ rfl
       have e3 : wr.cell? ⟨gb, off + j * 13 + 3, none⟩ = some (.int .i64 x.e) := hce 3 _ rfl
       have e4 : wr.cell? ⟨gb, off + j * 13 + 4, none⟩ = some (.int .i64 x.r.1) := hce 4 _ rfl
       have e5 : wr.cell? ⟨gb, off + j * 13 + 5, none⟩ = some (.int .i64 x.r.2.1) := hce 5 _ rfl
       have e6 : wr.cell? ⟨gb, off + j * 13 + 6, none⟩ = some (.bool x.r.2.2.1) := hce 6 _ rfl
       have e7 : wr.cell? ⟨gb, off + j * 13 + 7, none⟩ = some (.bool x.r.2.2.2) := hce 7 _ rfl
       have e8 : wr.cell? ⟨gb, off + j * 13 + 8, none⟩ = some (.int .i64 x.q.1) := hce 8 _ rfl
       have e9 : wr.cell? ⟨gb, off + j * 13 + 9, none⟩ = some (.int .i64 x.q.2.1) := hce 9 _ rfl
       have e10 : wr.cell? ⟨gb, off + j * 13 + 10, none⟩ = some (.bool x.q.2.2.1) := hce 10 _ rfl
       have e11 : wr.cell? ⟨gb, off + j * 13 + 11, none⟩ = some (.bool x.q.2.2.2) := hce 11 _ rfl
       have e12 : wr.cell? ⟨gb, off + j * 13 + 12, none⟩ = some (.slice pp ln' cl') := hce 12 _ rfl
       clear hI hx1 hLx hce hcl hln'
       go_wp2_with fail
       refine HC.out.mono ?_
       rintro e w3 ⟨qq, lm, cm, rfl, hL, E3⟩
       obtain ⟨y, hy⟩ : ∃ y, mpT (fiE row col) n x = y := ⟨_, rfl⟩
       have HY : Hid (mpT (fiE row col) n x = y) := hy
       rw [hy] at hL ⊢
       have HL3 : Hid (IsL w3 (fun k => (P k ∧ k < W.heap.size) ∨ (W.heap.size + 1 + 1 ≤ k ∧ k ≠ g)) (.slice qq lm cm) y.l) := hL.mono (fun k hk hs => by rcases hk with hk | hk; exact .inl hk; exact .inr ⟨by omega, by omega⟩)
       have HO3 : Hid (OwY w3 (W.heap.size + 1 + 1) (.slice (some ⟨g, 0, none⟩) ps.length cap) ps ∧ Ext W w3 ∧ BlkX w3 W.heap.size t (.slice (some ⟨gb, off, none⟩) ln cl) ∧ BlkX w3 (W.heap.size + 1) tz (.slice none 0 0) ∧ (∀ p ∈ ps, IsL w3 (fun k => (P k ∧ k < W.heap.size) ∨ (W.heap.size + 1 + 1 ≤ k ∧ k ≠ g)) p.2 p.1.l)) := ⟨HO.out.1.ext E3, HO.out.2.2.1.trans E3, HB.out.1.ext E3, HB.out.2.ext E3, fun p hp => (HO.out.2.2.2.2 p hp).ext E3⟩
       have hw3 : W.heap.size + 1 < w3.heap.size := HO3.out.2.2.2.1.1
       clear hL E3 hy f12 k0 k1 k2 k3 k4 k5 k6 k7 k8 k9 k10 k11 k12 e0 e1 e2 e3 e4 e5 e6 e7 e8 e9 e10 e11 e12
       have HB4 : Hid (OwY (w3.alloc (.cells #[.int .i64 y.k, .int .i64 y.n, .string (bs y.s), .int .i64 y.e, .int .i64 y.r.1, .int .i64 y.r.2.1, .bool y.r.2.2.1, .bool y.r.2.2.2, .int .i64 y.q.1, .int .i64 y.q.2.1, .bool y.q.2.2.1, .bool y.q.2.2.2, .slice qq lm cm] 26)) (W.heap.size + 1 + 1) (.slice (some ⟨g, 0, none⟩) ps.length cap) ps) := HO3.out.1.ext ((Ext.refl _).alloc _)
       unfold aggX
       go_wp2_with (at_builtin; refine y_append _ (W.heap.size + 1 + 1) _ _ _ w3.heap.size ps y qq lm cm rfl rfl (by rfl) (by rfl) (by rw [← HO.out.2.2.2.1]; exact HB4.out) ?cR (by rw [HO.out.2.2.2.1]; omega) (by simp; omega) ?_)
       case cR =>
         intro j u hu
         rw [Addr.add_lit, cell_of_row _ _ _ _ _ (0, 0) (new_top w3 _), Nat.zero_add]
         rw [← hu, ← Array.getElem?_toList]; rfl
       intro v' w4 k1 k2 g4 cap4 hv4 k4
       subst hv4
       rw [← HO.out.2.2.2.1] at k2 k4
       have hg4 : g4 = g ∨ w3.heap.size ≤ g4 := by
         by_cases hg : g4 = g
         · exact .inl hg
         · rcases Nat.lt_or_ge g4 w3.heap.size with hlt4 | hge4
           · have := k4 g4 (by omega) (by simp [Value.ownBlock]; omega)
             simp [Value.ownBlock] at this
           · exact .inr hge4
       have HIL : Hid (∀ z l, IsL w3 (fun k => (P k ∧ k < W.heap.size) ∨ (W.heap.size + 1 + 1 ≤ k ∧ k ≠ g)) z l → IsL w4 (fun k => (P k ∧ k < W.heap.size) ∨ (W.heap.size + 1 + 1 ≤ k ∧ k ≠ g4)) z l) := fun z l hz =>
         (hz.mono (P' := fun k => ((P k ∧ k < W.heap.size) ∨ (W.heap.size + 1 + 1 ≤ k ∧ k ≠ g)) ∧ k < w3.heap.size) (fun k hk hs => ⟨hk, hs⟩)).ext ((Ext.refl _).alloc (.cells #[.int .i64 y.k, .int .i64 y.n, .string (bs y.s), .int .i64 y.e, .int .i64 y.r.1, .int .i64 y.r.2.1, .bool y.r.2.2.1, .bool y.r.2.2.2, .int .i64 y.q.1, .int .i64 y.q.2.1, .bool y.q.2.2.1, .bool y.q.2.2.2, .slice qq lm cm] 26)) |>.keep k2.size (fun k hk hs => k2.block k hs (by simp [Value.ownBlock]; rcases hk.1 with h | h <;> omega)) (fun k hk _ => by rcases hk.1 with h | h; exact .inl h; exact .inr ⟨h.1, by omega⟩)
       have HG : Hid (OwY w4 (W.heap.size + 1 + 1) (.slice (some ⟨g4, 0, none⟩) (ps.length + 1) cap4) (ps ++ [(y, .slice qq lm cm)]) ∧ Ext W w4 ∧ BlkX w4 W.heap.size t (.slice (some ⟨gb, off, none⟩) ln cl) ∧ BlkX w4 (W.heap.size + 1) tz (.slice none 0 0)) :=
         ⟨k1, ext_grownY k2 HB4.out (HO3.out.2.1.alloc _) (by omega), (HO3.out.2.2.1.ext ((Ext.refl _).alloc _)).grownY k2 HB4.out (by omega), (HO3.out.2.2.2.1.ext ((Ext.refl _).alloc _)).grownY k2 HB4.out (by omega)⟩
       clear k1 k2 k4 HB4 hg4
       go_wp2_with fail
       go_roundw
       case rel =>
         refine ⟨j + 1, g4, cap4, ps ++ [(y, .slice qq lm cm)], by omega, by rw [HO.out.2.2.2.1], by go_num, by rw [List.length_append, HO.out.2.2.2.1]; rfl, ?_, ?_, ?_, HG.out.2.2.1, HG.out.2.2.2, HG.out.2.1⟩
         · rw [List.length_append]; exact HG.out.1
         · intro p hp
           rcases List.mem_append.1 hp with hp | hp
           · exact HIL.out _ _ (HO3.out.2.2.2.2 p hp)
           · simp at hp; subst hp; exact HIL.out _ _ HL3.out
         · rw [List.map_append, HO.out.2.1, List.take_add_one, HX1.out]; simp [← HY.out]
       case measure => show ln - ((j : Int) + 1).toNat < ln - ((j : Int)).toNat; omega
     · have hltI : ¬ (j : Int) < (ln : Int) := by omega
       have hjl : j = ln := by omega
       have HT : Hid (ps.map Prod.fst = t.l.map (mpT (fiE row col) n)) := by show _ = _; rw [HO.out.2.1, hjl, HLN.out, List.take_length]
       clear hlt hjl
       obtain ⟨qy, ⟨y0, y1, y2, y3, y4, y5, y6, y7, y8, y9, y10, y11, y12⟩, g0, g1, g2, g3, g4, g5, g6, g7, g8, g9, g10, g11, g12⟩ := HB.out.2
       go_wp2_with fail
       have hLL := HO.out.1.isL (P := fun k => (P k ∧ k < W.heap.size) ∨ W.heap.size + 1 + 1 ≤ k) (fun k hk => .inr hk) (fun p hp => (HO.out.2.2.2.2 p hp).mono (fun k hk _ => by rcases hk with h | h; exact .inl h; exact .inr h.1))
       rw [HT.out, HO.out.2.2.2.1] at hLL
       have HLL : Hid (IsL wr (fun k => (P k ∧ k < W.heap.size) ∨ W.heap.size + 1 + 1 ≤ k) (.slice (some ⟨g, 0, none⟩) j cap) (t.l.map (mpT (fiE row col) n))) := hLL
       clear hLL
       obtain ⟨L, hLq⟩ : ∃ L, t.l.map (mpT (fiE row col) n) = L := ⟨_, rfl⟩
       rw [hLq] at HLL HX
       show bodyPost Try.prog _ _ _ _ (putX (wr.setCell ⟨W.heap.size, 12, none⟩ (.slice (some ⟨g, 0, none⟩) j cap)) (W.heap.size + 1) (t.wL L) (.slice (some ⟨g, 0, none⟩) j cap))
       have hB6 : BlkX (wr.setCell ⟨W.heap.size, 12, none⟩ (.slice (some ⟨g, 0, none⟩) j cap)) (W.heap.size + 1) tz (.slice none 0 0) := Blk13.far1 HB.out.2 (by omega) 12 _
       have hL6 : IsL (wr.setCell ⟨W.heap.size, 12, none⟩ (.slice (some ⟨g, 0, none⟩) j cap)) (fun k => (P k ∧ k < W.heap.size) ∨ W.heap.size + 1 + 1 ≤ k) (.slice (some ⟨g, 0, none⟩) j cap) L := HLL.out.keep (by simp [World.setCell]) (fun k hk _ => Below.heap_setCell _ _ _ _ (by simp; omega)) (fun _ h _ => h)
       have hE6 : Ext W (wr.setCell ⟨W.heap.size, 12, none⟩ (.slice (some ⟨g, 0, none⟩) j cap)) := HO.out.2.2.1.setCell (p := ⟨W.heap.size, 12, none⟩) (Nat.le_refl _) _
       generalize wr.setCell ⟨W.heap.size, 12, none⟩ (.slice (some ⟨g, 0, none⟩) j cap) = W6 at hB6 hL6 hE6 ⊢
       rw [HX.out]
       exact endR (hB6.put (t.wL L) _) rfl ⟨_, _, _, rfl, (putX_L hL6 (fun k hk => by omega)).mono (fun k hk _ => by rcases hk with h | h; exact .inl h.1; exact .inr (by omega)), putX_E hE6 (by omega) _ _⟩ (fun h0 h1 h2 h3 h4 h5 h6 h7 h8 h9 h10 h11 h12 => by simp [results, Try.results49, go_sem, h0, h1, h2, h3, h4, h5, h6, h7, h8, h9, h10, h11, h12, aggX])

open Go.RowKit
set_option maxHeartbeats 6000000

theorem rfill_any (row col : Int) (n : Nat) : ∀ t : T, Hr n t → ∀ (P : Nat → Prop) (W : World) (pp : Option Addr) (ln cl : Nat), IsL W P (.slice pp ln cl) t.l → Calls Try.prog 49 #[.agg #[.int .i64 t.k, .int .i64 t.n, .string (bs t.s), .int .i64 t.e, .int .i64 t.r.1, .int .i64 t.r.2.1, .bool t.r.2.2.1, .bool t.r.2.2.2, .int .i64 t.q.1, .int .i64 t.q.2.1, .bool t.q.2.2.1, .bool t.q.2.2.2, .slice pp ln cl], .int .i64 row, .int .i64 col] W (DcQ P W (mpT (fiE row col) n t)) := by
 induction n with
 | zero => intro t h; cases h
 | succ n ih =>
   intro t hr P W pp ln cl hL
   by_cases hp : t.k = 6 ∨ t.k = 7 ∨ t.k = 8
   · exact rfill_n n t row col hp hr.1 (fun x hx => ih x (hr.2 x hx)) P W pp ln cl hL
   · exact rfill_0 n t row col hp P W pp ln cl hL
set_option maxRecDepth 100000 in
theorem rfillc_any (n : Nat) (t : T) (hr : Hr n t) (row col : Int) (W : World) (P : Nat → Prop) (pp : Option Addr) (ln cl : Nat) (hL : IsL W P (.slice pp ln cl) t.l) :
   Calls Try.prog 22 #[.agg #[.int .i64 t.k, .int .i64 t.n, .string (bs t.s), .int .i64 t.e, .int .i64 t.r.1, .int .i64 t.r.2.1, .bool t.r.2.2.1, .bool t.r.2.2.2, .int .i64 t.q.1, .int .i64 t.q.2.1, .bool t.q.2.2.1, .bool t.q.2.2.2, .slice pp ln cl], .int .i64 row, .int .i64 col] W (DcQ P W (if wellT n t then mpT (fiE row col) n t else tz)) := by
 have HI : Hid (IsL W (fun k => P k ∧ k < W.heap.size) (.slice pp ln cl) t.l) := hL.mono (fun k hk hs => ⟨hk, hs⟩)
 have HR : Hid (Hr n t) := hr
 have C0 := rwell_any (fun k => P k ∧ k < W.heap.size) n t hr ((W.alloc (.cells #[.int .i64 t.k, .int .i64 t.n, .string (bs t.s), .int .i64 t.e, .int .i64 t.r.1, .int .i64 t.r.2.1, .bool t.r.2.2.1, .bool t.r.2.2.2, .int .i64 t.q.1, .int .i64 t.q.2.1, .bool t.q.2.2.1, .bool t.q.2.2.2, .slice pp ln cl] 26)).alloc (.cells #[.int .i64 0, .int .i64 0, .string ⟨#[]⟩, .int .i64 0, .int .i64 0, .int .i64 0, .bool false, .bool false, .int .i64 0, .int .i64 0, .bool false, .bool false, .slice none 0 0] 26)) pp ln cl (HI.out.ext (((Ext.refl _).alloc _).alloc _))
 obtain ⟨y, hy⟩ : ∃ y, (if wellT n t then mpT (fiE row col) n t else tz) = y := ⟨_, rfl⟩
 have HY : Hid ((if wellT n t then mpT (fiE row col) n t else tz) = y) := hy
 rw [hy]
 clear hL hr hy
 go_enter Try.func22, Try.ntmps22
 go_wp2_with fail
 refine C0.mono ?_
 rintro e w1 ⟨rfl, E1⟩
 have HB : Hid (BlkX w1 W.heap.size t (.slice pp ln cl) ∧ BlkX w1 (W.heap.size + 1) tz (.slice none 0 0) ∧ Ext W w1) := ⟨(blk13_top rfl ((Ext.refl _).alloc _)).ext E1, (BlkX.top (by simp) (Ext.refl _)).ext E1, (((Ext.refl _).alloc _).alloc _).trans E1⟩
 have hz : W.heap.size + 1 < w1.heap.size := HB.out.2.1.1
 have HB0 := HB.out.1
 obtain ⟨qa, ⟨la0, la1, la2, la3, la4, la5, la6, la7, la8, la9, la10, la11, la12⟩, ga0, ga1, ga2, ga3, ga4, ga5, ga6, ga7, ga8, ga9, ga10, ga11, ga12⟩ := HB0
 have HB1 := HB.out.2.1
 obtain ⟨qc, ⟨lc0, lc1, lc2, lc3, lc4, lc5, lc6, lc7, lc8, lc9, lc10, lc11, lc12⟩, gc0, gc1, gc2, gc3, gc4, gc5, gc6, gc7, gc8, gc9, gc10, gc11, gc12⟩ := HB1
 clear E1 C0
 cases hw : wellT n t
 · rw [hw] at HY
   simp only [Bool.false_eq_true, if_false] at HY
   clear hw
   go_wp2_with fail
   show bodyPost Try.prog _ _ _ _ (putX w1 (W.heap.size + 1) tz (.slice none 0 0))
   rw [← HY.out]
   exact endR (HB.out.2.1.put tz (.slice none 0 0)) rfl ⟨none, 0, 0, rfl, .nil, putX_E HB.out.2.2 (by omega) _ _⟩ (fun h0 h1 h2 h3 h4 h5 h6 h7 h8 h9 h10 h11 h12 => by simp [results, Try.results22, go_sem, h0, h1, h2, h3, h4, h5, h6, h7, h8, h9, h10, h11, h12, aggX])
 · rw [hw] at HY
   simp only [if_true] at HY
   have C1 := rfill_any row col n t HR.out (fun k => P k ∧ k < W.heap.size) w1 pp ln cl (HI.out.ext HB.out.2.2)
   rw [HY.out] at C1
   clear hw HY
   go_wp2_with fail
   refine C1.mono ?_
   rintro e w2 ⟨p, l, c, rfl, L2, E2⟩
   have H2 : Hid (BlkX w2 (W.heap.size + 1) tz (.slice none 0 0) ∧ Ext W w2 ∧ IsL w2 (fun k => (P k ∧ k < W.heap.size) ∨ W.heap.size + 1 + 1 ≤ k) (.slice p l c) y.l) := ⟨HB.out.2.1.ext E2, HB.out.2.2.trans E2, L2.mono (fun k hk _ => by rcases hk with h | h; exact .inl h; exact .inr (by omega))⟩
   have HB2 := H2.out.1
   clear E2 L2 C1 la0 la1 la2 la3 la4 la5 la6 la7 la8 la9 la10 la11 la12 ga0 ga1 ga2 ga3 ga4 ga5 ga6 ga7 ga8 ga9 ga10 ga11 ga12 lc0 lc1 lc2 lc3 lc4 lc5 lc6 lc7 lc8 lc9 lc10 lc11 lc12 gc0 gc1 gc2 gc3 gc4 gc5 gc6 gc7 gc8 gc9 gc10 gc11 gc12 qa qc
   obtain ⟨qc, ⟨lc0, lc1, lc2, lc3, lc4, lc5, lc6, lc7, lc8, lc9, lc10, lc11, lc12⟩, gc0, gc1, gc2, gc3, gc4, gc5, gc6, gc7, gc8, gc9, gc10, gc11, gc12⟩ := HB2
   unfold aggX
   go_wp2_with fail
   show bodyPost Try.prog _ _ _ _ (putX w2 (W.heap.size + 1) y (.slice p l c))
   obtain ⟨hB9, hE9, hL9⟩ := H2.out
   have hq : DcQ P W y (.returned (aggX y (.slice p l c))) (putX w2 (W.heap.size + 1) y (.slice p l c)) := by
     refine ⟨p, l, c, rfl, ?_, putX_E hE9 (by omega) _ _⟩
     refine (putX_L hL9 (fun k hk => ?_)).mono (fun k hk _ => ?_)
     · have hk2 : (P k ∧ k < W.heap.size) ∨ W.heap.size + 1 + 1 ≤ k := hk
       omega
     · have hk2 : (P k ∧ k < W.heap.size) ∨ W.heap.size + 1 + 1 ≤ k := hk
       rcases hk2 with h | h
       · exact .inl h.1
       · exact .inr (by omega)
   exact endR (hB9.put y (.slice p l c)) rfl hq (fun h0 h1 h2 h3 h4 h5 h6 h7 h8 h9 h10 h11 h12 => by simp [results, Try.results22, go_sem, h0, h1, h2, h3, h4, h5, h6, h7, h8, h9, h10, h11, h12, aggX])
end Go.Proofs.Ytcggiljlilbdfaa
