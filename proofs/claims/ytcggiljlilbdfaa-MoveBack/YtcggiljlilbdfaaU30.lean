/-
 Package move: Insert, Delete.
-/
import Derived.Test.YtcggiljlilbdfaaU29
namespace Go.Proofs.Ytcggiljlilbdfaa
open Go.RowKit
set_option maxHeartbeats 6000000

set_option maxRecDepth 100000 in
theorem changed_any (o : Int → Int) (b : Int → Int → Int × Int × Bool) (n : Nat) (t : T) (hr : Hr n t) (v1 v2 : Value) (W : World) (P : Nat → Prop) (pp : Option Addr) (ln cl : Nat) (hR : RwC W v1 v2 o b) (hL : IsL W P (.slice pp ln cl) t.l) :
   Calls Try.prog 57 #[.agg #[.int .i64 t.k, .int .i64 t.n, .string (bs t.s), .int .i64 t.e, .int .i64 t.r.1, .int .i64 t.r.2.1, .bool t.r.2.2.1, .bool t.r.2.2.2, .int .i64 t.q.1, .int .i64 t.q.2.1, .bool t.q.2.2.1, .bool t.q.2.2.2, .slice pp ln cl], .agg #[v1, v2]] W (MpQ W (if wellT n t then mpT (chE o b) n t else tz)) := by
 have HR : Hid (RwC W v1 v2 o b) := hR
 have HI : Hid (IsL W P (.slice pp ln cl) t.l) := hL
 have HH : Hid (Hr n t) := hr
 obtain ⟨K1, c1, K2, c2, rfl, rfl⟩ := func_cell hR
 have C0 := well_any P n t hr (((W.alloc (.cells #[.int .i64 t.k, .int .i64 t.n, .string (bs t.s), .int .i64 t.e, .int .i64 t.r.1, .int .i64 t.r.2.1, .bool t.r.2.2.1, .bool t.r.2.2.2, .int .i64 t.q.1, .int .i64 t.q.2.1, .bool t.q.2.2.1, .bool t.q.2.2.2, .slice pp ln cl] 26)).alloc (.cells #[(.func (.func K1) #[] c1), (.func (.func K2) #[] c2)] 72)).alloc (.cells #[.int .i64 0, .int .i64 0, .string ⟨#[]⟩, .int .i64 0, .int .i64 0, .int .i64 0, .bool false, .bool false, .int .i64 0, .int .i64 0, .bool false, .bool false, .slice none 0 0] 26)) pp ln cl (hL.ext ((((Ext.refl _).alloc _).alloc _).alloc _))
 obtain ⟨y, hy⟩ : ∃ y, (if wellT n t then mpT (chE o b) n t else tz) = y := ⟨_, rfl⟩
 have HY : Hid ((if wellT n t then mpT (chE o b) n t else tz) = y) := hy
 rw [hy]
 clear hL hr hR hy
 go_enter Try.func57, Try.ntmps57
 go_wp2_with fail
 have HB : Hid (BlkX (((W.alloc (.cells #[.int .i64 t.k, .int .i64 t.n, .string (bs t.s), .int .i64 t.e, .int .i64 t.r.1, .int .i64 t.r.2.1, .bool t.r.2.2.1, .bool t.r.2.2.2, .int .i64 t.q.1, .int .i64 t.q.2.1, .bool t.q.2.2.1, .bool t.q.2.2.2, .slice pp ln cl] 26)).alloc (.cells #[(.func (.func K1) #[] c1), (.func (.func K2) #[] c2)] 72)).alloc (.cells #[.int .i64 0, .int .i64 0, .string ⟨#[]⟩, .int .i64 0, .int .i64 0, .int .i64 0, .bool false, .bool false, .int .i64 0, .int .i64 0, .bool false, .bool false, .slice none 0 0] 26)) W.heap.size t (.slice pp ln cl) ∧ Blk2 (((W.alloc (.cells #[.int .i64 t.k, .int .i64 t.n, .string (bs t.s), .int .i64 t.e, .int .i64 t.r.1, .int .i64 t.r.2.1, .bool t.r.2.2.1, .bool t.r.2.2.2, .int .i64 t.q.1, .int .i64 t.q.2.1, .bool t.q.2.2.1, .bool t.q.2.2.2, .slice pp ln cl] 26)).alloc (.cells #[(.func (.func K1) #[] c1), (.func (.func K2) #[] c2)] 72)).alloc (.cells #[.int .i64 0, .int .i64 0, .string ⟨#[]⟩, .int .i64 0, .int .i64 0, .int .i64 0, .bool false, .bool false, .int .i64 0, .int .i64 0, .bool false, .bool false, .slice none 0 0] 26)) (W.heap.size + 1) (.func (.func K1) #[] c1) (.func (.func K2) #[] c2) ∧ BlkX (((W.alloc (.cells #[.int .i64 t.k, .int .i64 t.n, .string (bs t.s), .int .i64 t.e, .int .i64 t.r.1, .int .i64 t.r.2.1, .bool t.r.2.2.1, .bool t.r.2.2.2, .int .i64 t.q.1, .int .i64 t.q.2.1, .bool t.q.2.2.1, .bool t.q.2.2.2, .slice pp ln cl] 26)).alloc (.cells #[(.func (.func K1) #[] c1), (.func (.func K2) #[] c2)] 72)).alloc (.cells #[.int .i64 0, .int .i64 0, .string ⟨#[]⟩, .int .i64 0, .int .i64 0, .int .i64 0, .bool false, .bool false, .int .i64 0, .int .i64 0, .bool false, .bool false, .slice none 0 0] 26)) (W.heap.size + 1 + 1) tz (.slice none 0 0) ∧ Ext W (((W.alloc (.cells #[.int .i64 t.k, .int .i64 t.n, .string (bs t.s), .int .i64 t.e, .int .i64 t.r.1, .int .i64 t.r.2.1, .bool t.r.2.2.1, .bool t.r.2.2.2, .int .i64 t.q.1, .int .i64 t.q.2.1, .bool t.q.2.2.1, .bool t.q.2.2.2, .slice pp ln cl] 26)).alloc (.cells #[(.func (.func K1) #[] c1), (.func (.func K2) #[] c2)] 72)).alloc (.cells #[.int .i64 0, .int .i64 0, .string ⟨#[]⟩, .int .i64 0, .int .i64 0, .int .i64 0, .bool false, .bool false, .int .i64 0, .int .i64 0, .bool false, .bool false, .slice none 0 0] 26))) := ⟨blk13_top rfl (((Ext.refl _).alloc _).alloc _), blk2_top (by simp) ((Ext.refl _).alloc _), BlkX.top (by simp) (Ext.refl _), (((Ext.refl _).alloc _).alloc _).alloc _⟩
 refine C0.mono ?_
 rintro e w1 ⟨rfl, E1⟩
 replace HB : Hid (BlkX w1 W.heap.size t (.slice pp ln cl) ∧ Blk2 w1 (W.heap.size + 1) (.func (.func K1) #[] c1) (.func (.func K2) #[] c2) ∧ BlkX w1 (W.heap.size + 1 + 1) tz (.slice none 0 0) ∧ Ext W w1) := ⟨HB.out.1.ext E1, HB.out.2.1.ext E1, HB.out.2.2.1.ext E1, HB.out.2.2.2.trans E1⟩
 clear E1 C0
 obtain ⟨qa, ⟨la0, la1, la2, la3, la4, la5, la6, la7, la8, la9, la10, la11, la12⟩, ga0, ga1, ga2, ga3, ga4, ga5, ga6, ga7, ga8, ga9, ga10, ga11, ga12⟩ := HB.out.1
 obtain ⟨qn, ⟨n0, n1⟩, m0, m1⟩ := HB.out.2.1
 obtain ⟨qc, ⟨lc0, lc1, lc2, lc3, lc4, lc5, lc6, lc7, lc8, lc9, lc10, lc11, lc12⟩, gc0, gc1, gc2, gc3, gc4, gc5, gc6, gc7, gc8, gc9, gc10, gc11, gc12⟩ := HB.out.2.2.1
 have hz : W.heap.size + 1 + 1 < w1.heap.size := qc
 cases hw : wellT n t
 · rw [hw] at HY
   simp only [Bool.false_eq_true, if_false] at HY
   clear hw
   go_wp2_with fail
   show bodyPost Try.prog _ _ _ _ (putX w1 (W.heap.size + 1 + 1) tz (.slice none 0 0))
   rw [← HY.out]
   exact endR (HB.out.2.2.1.put tz (.slice none 0 0)) rfl ⟨none, 0, 0, rfl, .nil, putX_E HB.out.2.2.2 (by omega) _ _⟩ (fun h0 h1 h2 h3 h4 h5 h6 h7 h8 h9 h10 h11 h12 => by simp [results, Try.results57, go_sem, h0, h1, h2, h3, h4, h5, h6, h7, h8, h9, h10, h11, h12, aggX])
 · rw [hw] at HY
   simp only [if_true] at HY
   have C1 := mtree_any o b n t HH.out (.func (.func K1) #[] c1) (.func (.func K2) #[] c2) w1 P pp ln cl (HR.out.ext HB.out.2.2.2) (HI.out.ext HB.out.2.2.2) (wa_arg hw)
   rw [HY.out] at C1
   clear hw HY
   go_wp2_with fail
   refine C1.mono ?_
   rintro e w2 ⟨p, l, c, rfl, L2, E2⟩
   replace HB : Hid (BlkX w2 W.heap.size t (.slice pp ln cl) ∧ Blk2 w2 (W.heap.size + 1) (.func (.func K1) #[] c1) (.func (.func K2) #[] c2) ∧ BlkX w2 (W.heap.size + 1 + 1) tz (.slice none 0 0) ∧ Ext W w2) := ⟨HB.out.1.ext E2, HB.out.2.1.ext E2, HB.out.2.2.1.ext E2, HB.out.2.2.2.trans E2⟩
   have HL2 : Hid (IsL w2 (W.heap.size + 1 + 1 + 1 ≤ ·) (.slice p l c) y.l) := L2.mono (fun k hk _ => by have h1 : w1.heap.size ≤ k := hk; omega)
   clear E2 L2 C1 qn n0 n1 m0 m1 qa la0 la1 la2 la3 la4 la5 la6 la7 la8 la9 la10 la11 la12 ga0 ga1 ga2 ga3 ga4 ga5 ga6 ga7 ga8 ga9 ga10 ga11 ga12 qc lc0 lc1 lc2 lc3 lc4 lc5 lc6 lc7 lc8 lc9 lc10 lc11 lc12 gc0 gc1 gc2 gc3 gc4 gc5 gc6 gc7 gc8 gc9 gc10 gc11 gc12
   obtain ⟨qa, ⟨la0, la1, la2, la3, la4, la5, la6, la7, la8, la9, la10, la11, la12⟩, ga0, ga1, ga2, ga3, ga4, ga5, ga6, ga7, ga8, ga9, ga10, ga11, ga12⟩ := HB.out.1
   obtain ⟨qn, ⟨n0, n1⟩, m0, m1⟩ := HB.out.2.1
   obtain ⟨qc, ⟨lc0, lc1, lc2, lc3, lc4, lc5, lc6, lc7, lc8, lc9, lc10, lc11, lc12⟩, gc0, gc1, gc2, gc3, gc4, gc5, gc6, gc7, gc8, gc9, gc10, gc11, gc12⟩ := HB.out.2.2.1
   unfold aggX
   go_wp2_with fail
   show bodyPost Try.prog _ _ _ _ (putX w2 (W.heap.size + 1 + 1) y (.slice p l c))
   exact endR (HB.out.2.2.1.put y (.slice p l c)) rfl ⟨p, l, c, rfl, (putX_L HL2.out (fun k hk => by have hk2 : W.heap.size + 1 + 1 + 1 ≤ k := hk; omega)).mono (fun k hk _ => by have hk2 : W.heap.size + 1 + 1 + 1 ≤ k := hk; omega), putX_E HB.out.2.2.2 (by omega) _ _⟩ (fun h0 h1 h2 h3 h4 h5 h6 h7 h8 h9 h10 h11 h12 => by simp [results, Try.results57, go_sem, h0, h1, h2, h3, h4, h5, h6, h7, h8, h9, h10, h11, h12, aggX])
set_option maxRecDepth 100000 in
theorem insert_any (n : Nat) (t : T) (hr : Hr n t) (a : Int) (W : World) (P : Nat → Prop) (pp : Option Addr) (ln cl : Nat) (hL : IsL W P (.slice pp ln cl) t.l) :
   Calls Try.prog 33 #[.agg #[.int .i64 t.k, .int .i64 t.n, .string (bs t.s), .int .i64 t.e, .int .i64 t.r.1, .int .i64 t.r.2.1, .bool t.r.2.2.1, .bool t.r.2.2.2, .int .i64 t.q.1, .int .i64 t.q.2.1, .bool t.q.2.2.1, .bool t.q.2.2.2, .slice pp ln cl], .int .i64 a] W (MpQ W (if wellT n t then mpT (chE (inR a) (inV a)) n t else tz)) := by
 have HI : Hid (IsL W P (.slice pp ln cl) t.l) := hL
 have HH : Hid (Hr n t) := hr
 obtain ⟨y, hy⟩ : ∃ y, (if wellT n t then mpT (chE (inR a) (inV a)) n t else tz) = y := ⟨_, rfl⟩
 have HY : Hid ((if wellT n t then mpT (chE (inR a) (inV a)) n t else tz) = y) := hy
 rw [hy]
 clear hL hr hy
 go_enter Try.func33, Try.ntmps33
 go_wp2_with fail
 have HB : Hid (BlkX ((W.alloc (.cells #[.int .i64 t.k, .int .i64 t.n, .string (bs t.s), .int .i64 t.e, .int .i64 t.r.1, .int .i64 t.r.2.1, .bool t.r.2.2.1, .bool t.r.2.2.2, .int .i64 t.q.1, .int .i64 t.q.2.1, .bool t.q.2.2.1, .bool t.q.2.2.2, .slice pp ln cl] 26)).alloc (.cells #[.int .i64 0, .int .i64 0, .string ⟨#[]⟩, .int .i64 0, .int .i64 0, .int .i64 0, .bool false, .bool false, .int .i64 0, .int .i64 0, .bool false, .bool false, .slice none 0 0] 26)) W.heap.size t (.slice pp ln cl) ∧ BlkX ((W.alloc (.cells #[.int .i64 t.k, .int .i64 t.n, .string (bs t.s), .int .i64 t.e, .int .i64 t.r.1, .int .i64 t.r.2.1, .bool t.r.2.2.1, .bool t.r.2.2.2, .int .i64 t.q.1, .int .i64 t.q.2.1, .bool t.q.2.2.1, .bool t.q.2.2.2, .slice pp ln cl] 26)).alloc (.cells #[.int .i64 0, .int .i64 0, .string ⟨#[]⟩, .int .i64 0, .int .i64 0, .int .i64 0, .bool false, .bool false, .int .i64 0, .int .i64 0, .bool false, .bool false, .slice none 0 0] 26)) (W.heap.size + 1) tz (.slice none 0 0) ∧ Ext W ((W.alloc (.cells #[.int .i64 t.k, .int .i64 t.n, .string (bs t.s), .int .i64 t.e, .int .i64 t.r.1, .int .i64 t.r.2.1, .bool t.r.2.2.1, .bool t.r.2.2.2, .int .i64 t.q.1, .int .i64 t.q.2.1, .bool t.q.2.2.1, .bool t.q.2.2.2, .slice pp ln cl] 26)).alloc (.cells #[.int .i64 0, .int .i64 0, .string ⟨#[]⟩, .int .i64 0, .int .i64 0, .int .i64 0, .bool false, .bool false, .int .i64 0, .int .i64 0, .bool false, .bool false, .slice none 0 0] 26))) := ⟨blk13_top rfl ((Ext.refl _).alloc _), BlkX.top (by simp) (Ext.refl _), ((Ext.refl _).alloc _).alloc _⟩
 have HZ : Hid (W.heap.size + 1 + 1 = ((W.alloc (.cells #[.int .i64 t.k, .int .i64 t.n, .string (bs t.s), .int .i64 t.e, .int .i64 t.r.1, .int .i64 t.r.2.1, .bool t.r.2.2.1, .bool t.r.2.2.2, .int .i64 t.q.1, .int .i64 t.q.2.1, .bool t.q.2.2.1, .bool t.q.2.2.2, .slice pp ln cl] 26)).alloc (.cells #[.int .i64 0, .int .i64 0, .string ⟨#[]⟩, .int .i64 0, .int .i64 0, .int .i64 0, .bool false, .bool false, .int .i64 0, .int .i64 0, .bool false, .bool false, .slice none 0 0] 26)).heap.size) := by show _ = _; simp
 generalize ((W.alloc (.cells #[.int .i64 t.k, .int .i64 t.n, .string (bs t.s), .int .i64 t.e, .int .i64 t.r.1, .int .i64 t.r.2.1, .bool t.r.2.2.1, .bool t.r.2.2.2, .int .i64 t.q.1, .int .i64 t.q.2.1, .bool t.q.2.2.1, .bool t.q.2.2.2, .slice pp ln cl] 26)).alloc (.cells #[.int .i64 0, .int .i64 0, .string ⟨#[]⟩, .int .i64 0, .int .i64 0, .int .i64 0, .bool false, .bool false, .int .i64 0, .int .i64 0, .bool false, .bool false, .slice none 0 0] 26)) = w0 at *
 have mkS : Hid (∀ V, Ext w0 V → V.cell? ⟨W.heap.size, 0, none⟩ = some (.int .i64 t.k) ∧ V.cell? ⟨W.heap.size, 1, none⟩ = some (.int .i64 t.n) ∧ V.cell? ⟨W.heap.size, 2, none⟩ = some (.string (bs t.s)) ∧ V.cell? ⟨W.heap.size, 3, none⟩ = some (.int .i64 t.e) ∧ V.cell? ⟨W.heap.size, 4, none⟩ = some (.int .i64 t.r.1) ∧ V.cell? ⟨W.heap.size, 5, none⟩ = some (.int .i64 t.r.2.1) ∧ V.cell? ⟨W.heap.size, 6, none⟩ = some (.bool t.r.2.2.1) ∧ V.cell? ⟨W.heap.size, 7, none⟩ = some (.bool t.r.2.2.2) ∧ V.cell? ⟨W.heap.size, 8, none⟩ = some (.int .i64 t.q.1) ∧ V.cell? ⟨W.heap.size, 9, none⟩ = some (.int .i64 t.q.2.1) ∧ V.cell? ⟨W.heap.size, 10, none⟩ = some (.bool t.q.2.2.1) ∧ V.cell? ⟨W.heap.size, 11, none⟩ = some (.bool t.q.2.2.2) ∧ V.cell? ⟨W.heap.size, 12, none⟩ = some (.slice pp ln cl)) := fun V e => (HB.out.1.ext e).2.1
 refine bar_begin (B := fun i => i == 4) (S := fun V => V.cell? ⟨W.heap.size, 0, none⟩ = some (.int .i64 t.k) ∧ V.cell? ⟨W.heap.size, 1, none⟩ = some (.int .i64 t.n) ∧ V.cell? ⟨W.heap.size, 2, none⟩ = some (.string (bs t.s)) ∧ V.cell? ⟨W.heap.size, 3, none⟩ = some (.int .i64 t.e) ∧ V.cell? ⟨W.heap.size, 4, none⟩ = some (.int .i64 t.r.1) ∧ V.cell? ⟨W.heap.size, 5, none⟩ = some (.int .i64 t.r.2.1) ∧ V.cell? ⟨W.heap.size, 6, none⟩ = some (.bool t.r.2.2.1) ∧ V.cell? ⟨W.heap.size, 7, none⟩ = some (.bool t.r.2.2.2) ∧ V.cell? ⟨W.heap.size, 8, none⟩ = some (.int .i64 t.q.1) ∧ V.cell? ⟨W.heap.size, 9, none⟩ = some (.int .i64 t.q.2.1) ∧ V.cell? ⟨W.heap.size, 10, none⟩ = some (.bool t.q.2.2.1) ∧ V.cell? ⟨W.heap.size, 11, none⟩ = some (.bool t.q.2.2.2) ∧ V.cell? ⟨W.heap.size, 12, none⟩ = some (.slice pp ln cl)) (by kernel_rfl) ?_
 have hS0 := mkS.out (World.drew w0) (Ext.refl _).drew
 refine bar_take (i := 0) (v := ?v0) rfl (by kernel_rfl) (by kernel_rfl) (by kernel_rfl) (by kernel_rfl) (fun _ _ _ h => h) (Or.inl ⟨by rfl, ?hy0⟩) hS0 ?rest0
 case hy0 => (intro W hSW; (try dsimp only at hSW); go_simp; with_reducible rfl)
 simp only [Act.put, List.setIfInBounds_toArray]
 refine bar_take (i := 1) (v := ?v1) rfl (by kernel_rfl) (by kernel_rfl) (by kernel_rfl) (by kernel_rfl) (fun _ _ _ h => h) (Or.inl ⟨by rfl, ?hy1⟩) hS0 ?rest1
 case hy1 => (intro W hSW; (try dsimp only at hSW); go_simp; with_reducible rfl)
 simp only [Act.put]
 clear hS0
 refine bar_one (i := 2) (by kernel_rfl) rfl (fun KK hKK => ?_)
 go_simp
 go_wp2_with (go_at_call 58; refine Calls.mono (coming_any a _) ?_; rintro e y1 ⟨v1, v2, rfl, R1, E1⟩)
 have X1 : Ext w0 y1 := Ext.trans (Ext.refl _).drew E1
 have HR1 : Hid (RwC y1 v1 v2 (inR a) (inV a)) := R1
 refine hKK.out _ _ (fun _ => mkS.out _ X1) ?_
 clear hKK KK R1 E1
 have C1 := changed_any (inR a) (inV a) n t HH.out v1 v2 y1 P pp ln cl HR1.out (HI.out.ext (HB.out.2.2.trans X1))
 rw [HY.out] at C1
 refine bar_one (i := 3) (by kernel_rfl) rfl (fun KK hKK => ?_)
 go_simp
 go_wp2_with (go_at_call 57; refine Calls.mono C1 ?_; rintro e y2 ⟨p, l, c, rfl, L2, E2⟩)
 have X2 : Ext w0 y2 := X1.trans E2
 have HL2 : Hid (IsL y2 (W.heap.size + 1 + 1 ≤ ·) (.slice p l c) y.l) := L2.mono (fun k hk _ => by have h1 : y1.heap.size ≤ k := hk; have h2 := HZ.out; have h3 := X1.sz; omega)
 refine hKK.out _ _ (fun _ => mkS.out _ X2) ?_
 clear hKK KK L2 E2 C1 X1
 unfold aggX
 have HB2 : Hid (BlkX y2 (W.heap.size + 1) tz (.slice none 0 0) ∧ Ext W y2) := ⟨HB.out.2.1.ext X2, HB.out.2.2.trans X2⟩
 obtain ⟨qc, ⟨lc0, lc1, lc2, lc3, lc4, lc5, lc6, lc7, lc8, lc9, lc10, lc11, lc12⟩, gc0, gc1, gc2, gc3, gc4, gc5, gc6, gc7, gc8, gc9, gc10, gc11, gc12⟩ := HB2.out.1
 clear mkS
 refine bar_one (i := 4) (by kernel_rfl) rfl (fun KK hKK => ?_)
 go_simp
 refine hKK.out _ (putX y2 (W.heap.size + 1) y (.slice p l c)) (fun h => absurd h (by decide)) ?_
 clear hKK KK
 refine bar_done (by kernel_rfl) ?_ _
 go_wp2_with fail
 exact endR (HB2.out.1.put y (.slice p l c)) rfl ⟨p, l, c, rfl, (putX_L HL2.out (fun k hk => by have hk2 : W.heap.size + 1 + 1 ≤ k := hk; omega)).mono (fun k hk _ => by have hk2 : W.heap.size + 1 + 1 ≤ k := hk; omega), putX_E HB2.out.2 (by omega) _ _⟩ (fun h0 h1 h2 h3 h4 h5 h6 h7 h8 h9 h10 h11 h12 => by simp [results, Try.results33, go_sem, h0, h1, h2, h3, h4, h5, h6, h7, h8, h9, h10, h11, h12, aggX])
set_option maxRecDepth 100000 in
theorem delete_any (n : Nat) (t : T) (hr : Hr n t) (a : Int) (W : World) (P : Nat → Prop) (pp : Option Addr) (ln cl : Nat) (hL : IsL W P (.slice pp ln cl) t.l) :
   Calls Try.prog 34 #[.agg #[.int .i64 t.k, .int .i64 t.n, .string (bs t.s), .int .i64 t.e, .int .i64 t.r.1, .int .i64 t.r.2.1, .bool t.r.2.2.1, .bool t.r.2.2.2, .int .i64 t.q.1, .int .i64 t.q.2.1, .bool t.q.2.2.1, .bool t.q.2.2.2, .slice pp ln cl], .int .i64 a] W (MpQ W (if wellT n t then mpT (chE (deR a) (deV a)) n t else tz)) := by
 have HI : Hid (IsL W P (.slice pp ln cl) t.l) := hL
 have HH : Hid (Hr n t) := hr
 obtain ⟨y, hy⟩ : ∃ y, (if wellT n t then mpT (chE (deR a) (deV a)) n t else tz) = y := ⟨_, rfl⟩
 have HY : Hid ((if wellT n t then mpT (chE (deR a) (deV a)) n t else tz) = y) := hy
 rw [hy]
 clear hL hr hy
 go_enter Try.func34, Try.ntmps34
 go_wp2_with fail
 have HB : Hid (BlkX ((W.alloc (.cells #[.int .i64 t.k, .int .i64 t.n, .string (bs t.s), .int .i64 t.e, .int .i64 t.r.1, .int .i64 t.r.2.1, .bool t.r.2.2.1, .bool t.r.2.2.2, .int .i64 t.q.1, .int .i64 t.q.2.1, .bool t.q.2.2.1, .bool t.q.2.2.2, .slice pp ln cl] 26)).alloc (.cells #[.int .i64 0, .int .i64 0, .string ⟨#[]⟩, .int .i64 0, .int .i64 0, .int .i64 0, .bool false, .bool false, .int .i64 0, .int .i64 0, .bool false, .bool false, .slice none 0 0] 26)) W.heap.size t (.slice pp ln cl) ∧ BlkX ((W.alloc (.cells #[.int .i64 t.k, .int .i64 t.n, .string (bs t.s), .int .i64 t.e, .int .i64 t.r.1, .int .i64 t.r.2.1, .bool t.r.2.2.1, .bool t.r.2.2.2, .int .i64 t.q.1, .int .i64 t.q.2.1, .bool t.q.2.2.1, .bool t.q.2.2.2, .slice pp ln cl] 26)).alloc (.cells #[.int .i64 0, .int .i64 0, .string ⟨#[]⟩, .int .i64 0, .int .i64 0, .int .i64 0, .bool false, .bool false, .int .i64 0, .int .i64 0, .bool false, .bool false, .slice none 0 0] 26)) (W.heap.size + 1) tz (.slice none 0 0) ∧ Ext W ((W.alloc (.cells #[.int .i64 t.k, .int .i64 t.n, .string (bs t.s), .int .i64 t.e, .int .i64 t.r.1, .int .i64 t.r.2.1, .bool t.r.2.2.1, .bool t.r.2.2.2, .int .i64 t.q.1, .int .i64 t.q.2.1, .bool t.q.2.2.1, .bool t.q.2.2.2, .slice pp ln cl] 26)).alloc (.cells #[.int .i64 0, .int .i64 0, .string ⟨#[]⟩, .int .i64 0, .int .i64 0, .int .i64 0, .bool false, .bool false, .int .i64 0, .int .i64 0, .bool false, .bool false, .slice none 0 0] 26))) := ⟨blk13_top rfl ((Ext.refl _).alloc _), BlkX.top (by simp) (Ext.refl _), ((Ext.refl _).alloc _).alloc _⟩
 have HZ : Hid (W.heap.size + 1 + 1 = ((W.alloc (.cells #[.int .i64 t.k, .int .i64 t.n, .string (bs t.s), .int .i64 t.e, .int .i64 t.r.1, .int .i64 t.r.2.1, .bool t.r.2.2.1, .bool t.r.2.2.2, .int .i64 t.q.1, .int .i64 t.q.2.1, .bool t.q.2.2.1, .bool t.q.2.2.2, .slice pp ln cl] 26)).alloc (.cells #[.int .i64 0, .int .i64 0, .string ⟨#[]⟩, .int .i64 0, .int .i64 0, .int .i64 0, .bool false, .bool false, .int .i64 0, .int .i64 0, .bool false, .bool false, .slice none 0 0] 26)).heap.size) := by show _ = _; simp
 generalize ((W.alloc (.cells #[.int .i64 t.k, .int .i64 t.n, .string (bs t.s), .int .i64 t.e, .int .i64 t.r.1, .int .i64 t.r.2.1, .bool t.r.2.2.1, .bool t.r.2.2.2, .int .i64 t.q.1, .int .i64 t.q.2.1, .bool t.q.2.2.1, .bool t.q.2.2.2, .slice pp ln cl] 26)).alloc (.cells #[.int .i64 0, .int .i64 0, .string ⟨#[]⟩, .int .i64 0, .int .i64 0, .int .i64 0, .bool false, .bool false, .int .i64 0, .int .i64 0, .bool false, .bool false, .slice none 0 0] 26)) = w0 at *
 have mkS : Hid (∀ V, Ext w0 V → V.cell? ⟨W.heap.size, 0, none⟩ = some (.int .i64 t.k) ∧ V.cell? ⟨W.heap.size, 1, none⟩ = some (.int .i64 t.n) ∧ V.cell? ⟨W.heap.size, 2, none⟩ = some (.string (bs t.s)) ∧ V.cell? ⟨W.heap.size, 3, none⟩ = some (.int .i64 t.e) ∧ V.cell? ⟨W.heap.size, 4, none⟩ = some (.int .i64 t.r.1) ∧ V.cell? ⟨W.heap.size, 5, none⟩ = some (.int .i64 t.r.2.1) ∧ V.cell? ⟨W.heap.size, 6, none⟩ = some (.bool t.r.2.2.1) ∧ V.cell? ⟨W.heap.size, 7, none⟩ = some (.bool t.r.2.2.2) ∧ V.cell? ⟨W.heap.size, 8, none⟩ = some (.int .i64 t.q.1) ∧ V.cell? ⟨W.heap.size, 9, none⟩ = some (.int .i64 t.q.2.1) ∧ V.cell? ⟨W.heap.size, 10, none⟩ = some (.bool t.q.2.2.1) ∧ V.cell? ⟨W.heap.size, 11, none⟩ = some (.bool t.q.2.2.2) ∧ V.cell? ⟨W.heap.size, 12, none⟩ = some (.slice pp ln cl)) := fun V e => (HB.out.1.ext e).2.1
 refine bar_begin (B := fun i => i == 4) (S := fun V => V.cell? ⟨W.heap.size, 0, none⟩ = some (.int .i64 t.k) ∧ V.cell? ⟨W.heap.size, 1, none⟩ = some (.int .i64 t.n) ∧ V.cell? ⟨W.heap.size, 2, none⟩ = some (.string (bs t.s)) ∧ V.cell? ⟨W.heap.size, 3, none⟩ = some (.int .i64 t.e) ∧ V.cell? ⟨W.heap.size, 4, none⟩ = some (.int .i64 t.r.1) ∧ V.cell? ⟨W.heap.size, 5, none⟩ = some (.int .i64 t.r.2.1) ∧ V.cell? ⟨W.heap.size, 6, none⟩ = some (.bool t.r.2.2.1) ∧ V.cell? ⟨W.heap.size, 7, none⟩ = some (.bool t.r.2.2.2) ∧ V.cell? ⟨W.heap.size, 8, none⟩ = some (.int .i64 t.q.1) ∧ V.cell? ⟨W.heap.size, 9, none⟩ = some (.int .i64 t.q.2.1) ∧ V.cell? ⟨W.heap.size, 10, none⟩ = some (.bool t.q.2.2.1) ∧ V.cell? ⟨W.heap.size, 11, none⟩ = some (.bool t.q.2.2.2) ∧ V.cell? ⟨W.heap.size, 12, none⟩ = some (.slice pp ln cl)) (by kernel_rfl) ?_
 have hS0 := mkS.out (World.drew w0) (Ext.refl _).drew
 refine bar_take (i := 0) (v := ?v0) rfl (by kernel_rfl) (by kernel_rfl) (by kernel_rfl) (by kernel_rfl) (fun _ _ _ h => h) (Or.inl ⟨by rfl, ?hy0⟩) hS0 ?rest0
 case hy0 => (intro W hSW; (try dsimp only at hSW); go_simp; with_reducible rfl)
 simp only [Act.put, List.setIfInBounds_toArray]
 refine bar_take (i := 1) (v := ?v1) rfl (by kernel_rfl) (by kernel_rfl) (by kernel_rfl) (by kernel_rfl) (fun _ _ _ h => h) (Or.inl ⟨by rfl, ?hy1⟩) hS0 ?rest1
 case hy1 => (intro W hSW; (try dsimp only at hSW); go_simp; with_reducible rfl)
 simp only [Act.put]
 clear hS0
 refine bar_one (i := 2) (by kernel_rfl) rfl (fun KK hKK => ?_)
 go_simp
 go_wp2_with (go_at_call 59; refine Calls.mono (going_any a _) ?_; rintro e y1 ⟨v1, v2, rfl, R1, E1⟩)
 have X1 : Ext w0 y1 := Ext.trans (Ext.refl _).drew E1
 have HR1 : Hid (RwC y1 v1 v2 (deR a) (deV a)) := R1
 refine hKK.out _ _ (fun _ => mkS.out _ X1) ?_
 clear hKK KK R1 E1
 have C1 := changed_any (deR a) (deV a) n t HH.out v1 v2 y1 P pp ln cl HR1.out (HI.out.ext (HB.out.2.2.trans X1))
 rw [HY.out] at C1
 refine bar_one (i := 3) (by kernel_rfl) rfl (fun KK hKK => ?_)
 go_simp
 go_wp2_with (go_at_call 57; refine Calls.mono C1 ?_; rintro e y2 ⟨p, l, c, rfl, L2, E2⟩)
 have X2 : Ext w0 y2 := X1.trans E2
 have HL2 : Hid (IsL y2 (W.heap.size + 1 + 1 ≤ ·) (.slice p l c) y.l) := L2.mono (fun k hk _ => by have h1 : y1.heap.size ≤ k := hk; have h2 := HZ.out; have h3 := X1.sz; omega)
 refine hKK.out _ _ (fun _ => mkS.out _ X2) ?_
 clear hKK KK L2 E2 C1 X1
 unfold aggX
 have HB2 : Hid (BlkX y2 (W.heap.size + 1) tz (.slice none 0 0) ∧ Ext W y2) := ⟨HB.out.2.1.ext X2, HB.out.2.2.trans X2⟩
 obtain ⟨qc, ⟨lc0, lc1, lc2, lc3, lc4, lc5, lc6, lc7, lc8, lc9, lc10, lc11, lc12⟩, gc0, gc1, gc2, gc3, gc4, gc5, gc6, gc7, gc8, gc9, gc10, gc11, gc12⟩ := HB2.out.1
 clear mkS
 refine bar_one (i := 4) (by kernel_rfl) rfl (fun KK hKK => ?_)
 go_simp
 refine hKK.out _ (putX y2 (W.heap.size + 1) y (.slice p l c)) (fun h => absurd h (by decide)) ?_
 clear hKK KK
 refine bar_done (by kernel_rfl) ?_ _
 go_wp2_with fail
 exact endR (HB2.out.1.put y (.slice p l c)) rfl ⟨p, l, c, rfl, (putX_L HL2.out (fun k hk => by have hk2 : W.heap.size + 1 + 1 ≤ k := hk; omega)).mono (fun k hk _ => by have hk2 : W.heap.size + 1 + 1 ≤ k := hk; omega), putX_E HB2.out.2 (by omega) _ _⟩ (fun h0 h1 h2 h3 h4 h5 h6 h7 h8 h9 h10 h11 h12 => by simp [results, Try.results34, go_sem, h0, h1, h2, h3, h4, h5, h6, h7, h8, h9, h10, h11, h12, aggX])
end Go.Proofs.Ytcggiljlilbdfaa
