import Derived.Test.YtjhmbkdkjgjoaaaX30
import Derived.Test.YtjhmbkdkjgjoaaaX21
namespace Go.Proofs.Ytjhmbkdkjgjoaaa
open Go.RowKit
set_option maxHeartbeats 6000000
set_option maxRecDepth 100000 in
theorem rform_any (n : Nat) (t : T) (hr : Hr n t) (row col : Int) (W : World) (P : Nat → Prop) (pp : Option Addr) (ln cl : Nat) (hL : IsL W P (.slice pp ln cl) t.l) :
   Calls Try.prog 49 #[.agg #[.int .i64 t.k, .int .i64 t.n, .string (bs t.s), .int .i64 t.e, .int .i64 t.r.1, .int .i64 t.r.2.1, .bool t.r.2.2.1, .bool t.r.2.2.2, .int .i64 t.q.1, .int .i64 t.q.2.1, .bool t.q.2.2.1, .bool t.q.2.2.2, .slice pp ln cl], .int .i64 row, .int .i64 col] W (DcQ P W (mpT (mvE (wrap64 (-row)) (wrap64 (-col))) n t)) := by
 have HI : Hid (IsL W (fun k => P k ∧ k < W.heap.size) (.slice pp ln cl) t.l) := hL.mono (fun k hk hs => ⟨hk, hs⟩)
 have C1 := rback_any (wrap64 (-row)) (wrap64 (-col)) n t hr (fun k => P k ∧ k < W.heap.size) ((W.alloc (.cells #[.int .i64 t.k, .int .i64 t.n, .string (bs t.s), .int .i64 t.e, .int .i64 t.r.1, .int .i64 t.r.2.1, .bool t.r.2.2.1, .bool t.r.2.2.2, .int .i64 t.q.1, .int .i64 t.q.2.1, .bool t.q.2.2.1, .bool t.q.2.2.2, .slice pp ln cl] 29)).alloc (.cells #[.int .i64 0, .int .i64 0, .string ⟨#[]⟩, .int .i64 0, .int .i64 0, .int .i64 0, .bool false, .bool false, .int .i64 0, .int .i64 0, .bool false, .bool false, .slice none 0 0] 29)) pp ln cl (HI.out.ext (((Ext.refl _).alloc _).alloc _))
 clear hL hr
 go_enter Try.func49, Try.ntmps49
 go_wp2_with fail
 refine C1.mono ?_
 rintro e w1 ⟨p, l, c, rfl, L1, E1⟩
 obtain ⟨y, hy⟩ : ∃ y, mpT (mvE (wrap64 (-row)) (wrap64 (-col))) n t = y := ⟨_, rfl⟩
 have HY : Hid (mpT (mvE (wrap64 (-row)) (wrap64 (-col))) n t = y) := hy
 rw [hy] at L1 ⊢
 have HB : Hid (BlkX w1 (W.heap.size + 1) tz (.slice none 0 0) ∧ Ext W w1 ∧ IsL w1 (fun k => (P k ∧ k < W.heap.size) ∨ W.heap.size + 1 + 1 ≤ k) (.slice p l c) y.l) := ⟨(BlkX.top (by simp) (Ext.refl _)).ext E1, (((Ext.refl _).alloc _).alloc _).trans E1, L1.mono (fun k hk _ => by rcases hk with h | h; exact .inl h; exact .inr (by simp at h; omega))⟩
 have HB1 := HB.out.1
 obtain ⟨qc, ⟨lc0, lc1, lc2, lc3, lc4, lc5, lc6, lc7, lc8, lc9, lc10, lc11, lc12⟩, gc0, gc1, gc2, gc3, gc4, gc5, gc6, gc7, gc8, gc9, gc10, gc11, gc12⟩ := HB1
 clear E1 L1 C1 hy
 unfold aggX
 go_wp2_with fail
 show bodyPost Try.prog _ _ _ _ (putX w1 (W.heap.size + 1) y (.slice p l c))
 rw [HY.out]
 obtain ⟨hB9, hE9, hL9⟩ := HB.out
 have hq : DcQ P W y (.returned (aggX y (.slice p l c))) (putX w1 (W.heap.size + 1) y (.slice p l c)) := by
   refine ⟨p, l, c, rfl, ?_, putX_E hE9 (by omega) _ _⟩
   refine (putX_L hL9 (fun k hk => ?_)).mono (fun k hk _ => ?_)
   · have hk2 : (P k ∧ k < W.heap.size) ∨ W.heap.size + 1 + 1 ≤ k := hk
     omega
   · have hk2 : (P k ∧ k < W.heap.size) ∨ W.heap.size + 1 + 1 ≤ k := hk
     rcases hk2 with h | h
     · exact .inl h.1
     · exact .inr (by omega)
 exact endR (hB9.put y (.slice p l c)) rfl hq (fun h0 h1 h2 h3 h4 h5 h6 h7 h8 h9 h10 h11 h12 => by simp [results, Try.results49, go_sem, h0, h1, h2, h3, h4, h5, h6, h7, h8, h9, h10, h11, h12, aggX])
set_option maxRecDepth 100000 in
theorem ralike_any (n : Nat) (a b : T) (ha : Hr n a) (hb : Hr n b) (r1 c1 r2 c2 : Int) (W : World) (pp qq : Option Addr) (ln cl lm cm : Nat) (hL : IsL W (fun _ => True) (.slice pp ln cl) a.l) (hM : IsL W (fun _ => True) (.slice qq lm cm) b.l) :
   Calls Try.prog 31 #[.agg #[.int .i64 a.k, .int .i64 a.n, .string (bs a.s), .int .i64 a.e, .int .i64 a.r.1, .int .i64 a.r.2.1, .bool a.r.2.2.1, .bool a.r.2.2.2, .int .i64 a.q.1, .int .i64 a.q.2.1, .bool a.q.2.2.1, .bool a.q.2.2.2, .slice pp ln cl], .int .i64 r1, .int .i64 c1, .agg #[.int .i64 b.k, .int .i64 b.n, .string (bs b.s), .int .i64 b.e, .int .i64 b.r.1, .int .i64 b.r.2.1, .bool b.r.2.2.1, .bool b.r.2.2.2, .int .i64 b.q.1, .int .i64 b.q.2.1, .bool b.q.2.2.1, .bool b.q.2.2.2, .slice qq lm cm], .int .i64 r2, .int .i64 c2] W fun e w' => e = .returned (.bool (sameT n (mpT (mvE (wrap64 (-r1)) (wrap64 (-c1))) n a) (mpT (mvE (wrap64 (-r2)) (wrap64 (-c2))) n b))) ∧ Ext W w' := by
 have HI : Hid (IsL W (fun _ => True) (.slice pp ln cl) a.l ∧ IsL W (fun _ => True) (.slice qq lm cm) b.l) := ⟨hL, hM⟩
 have HR : Hid (Hr n a ∧ Hr n b ∧ Hr n (mpT (mvE (wrap64 (-r1)) (wrap64 (-c1))) n a)) := ⟨ha, hb, hr_mp n a ha _ (fun t => mvE_l _ _ t)⟩
 clear hL hM ha hb
 go_enter Try.func31, Try.ntmps31
 go_wp2_with fail
 have HW1 : Hid (Ext W ((W.alloc (.cells #[.int .i64 a.k, .int .i64 a.n, .string (bs a.s), .int .i64 a.e, .int .i64 a.r.1, .int .i64 a.r.2.1, .bool a.r.2.2.1, .bool a.r.2.2.2, .int .i64 a.q.1, .int .i64 a.q.2.1, .bool a.q.2.2.1, .bool a.q.2.2.2, .slice pp ln cl] 29)).alloc (.cells #[.int .i64 b.k, .int .i64 b.n, .string (bs b.s), .int .i64 b.e, .int .i64 b.r.1, .int .i64 b.r.2.1, .bool b.r.2.2.1, .bool b.r.2.2.2, .int .i64 b.q.1, .int .i64 b.q.2.1, .bool b.q.2.2.1, .bool b.q.2.2.2, .slice qq lm cm] 29))) := ((Ext.refl _).alloc _).alloc _
 have HB : Hid (BlkX ((W.alloc (.cells #[.int .i64 a.k, .int .i64 a.n, .string (bs a.s), .int .i64 a.e, .int .i64 a.r.1, .int .i64 a.r.2.1, .bool a.r.2.2.1, .bool a.r.2.2.2, .int .i64 a.q.1, .int .i64 a.q.2.1, .bool a.q.2.2.1, .bool a.q.2.2.2, .slice pp ln cl] 29)).alloc (.cells #[.int .i64 b.k, .int .i64 b.n, .string (bs b.s), .int .i64 b.e, .int .i64 b.r.1, .int .i64 b.r.2.1, .bool b.r.2.2.1, .bool b.r.2.2.2, .int .i64 b.q.1, .int .i64 b.q.2.1, .bool b.q.2.2.1, .bool b.q.2.2.2, .slice qq lm cm] 29)) W.heap.size a (.slice pp ln cl) ∧ BlkX ((W.alloc (.cells #[.int .i64 a.k, .int .i64 a.n, .string (bs a.s), .int .i64 a.e, .int .i64 a.r.1, .int .i64 a.r.2.1, .bool a.r.2.2.1, .bool a.r.2.2.2, .int .i64 a.q.1, .int .i64 a.q.2.1, .bool a.q.2.2.1, .bool a.q.2.2.2, .slice pp ln cl] 29)).alloc (.cells #[.int .i64 b.k, .int .i64 b.n, .string (bs b.s), .int .i64 b.e, .int .i64 b.r.1, .int .i64 b.r.2.1, .bool b.r.2.2.1, .bool b.r.2.2.2, .int .i64 b.q.1, .int .i64 b.q.2.1, .bool b.q.2.2.1, .bool b.q.2.2.2, .slice qq lm cm] 29)) (W.heap.size + 1) b (.slice qq lm cm)) := ⟨blk13_top rfl ((Ext.refl _).alloc _), blk13_top (by simp) (Ext.refl _)⟩
 generalize ((W.alloc (.cells #[.int .i64 a.k, .int .i64 a.n, .string (bs a.s), .int .i64 a.e, .int .i64 a.r.1, .int .i64 a.r.2.1, .bool a.r.2.2.1, .bool a.r.2.2.2, .int .i64 a.q.1, .int .i64 a.q.2.1, .bool a.q.2.2.1, .bool a.q.2.2.2, .slice pp ln cl] 29)).alloc (.cells #[.int .i64 b.k, .int .i64 b.n, .string (bs b.s), .int .i64 b.e, .int .i64 b.r.1, .int .i64 b.r.2.1, .bool b.r.2.2.1, .bool b.r.2.2.2, .int .i64 b.q.1, .int .i64 b.q.2.1, .bool b.q.2.2.1, .bool b.q.2.2.2, .slice qq lm cm] 29)) = W1 at *
 have mkS : Hid (∀ V, Ext W1 V → (V.cell? ⟨W.heap.size, 0, none⟩ = some (.int .i64 a.k) ∧ V.cell? ⟨W.heap.size, 1, none⟩ = some (.int .i64 a.n) ∧ V.cell? ⟨W.heap.size, 2, none⟩ = some (.string (bs a.s)) ∧ V.cell? ⟨W.heap.size, 3, none⟩ = some (.int .i64 a.e) ∧ V.cell? ⟨W.heap.size, 4, none⟩ = some (.int .i64 a.r.1) ∧ V.cell? ⟨W.heap.size, 5, none⟩ = some (.int .i64 a.r.2.1) ∧ V.cell? ⟨W.heap.size, 6, none⟩ = some (.bool a.r.2.2.1) ∧ V.cell? ⟨W.heap.size, 7, none⟩ = some (.bool a.r.2.2.2) ∧ V.cell? ⟨W.heap.size, 8, none⟩ = some (.int .i64 a.q.1) ∧ V.cell? ⟨W.heap.size, 9, none⟩ = some (.int .i64 a.q.2.1) ∧ V.cell? ⟨W.heap.size, 10, none⟩ = some (.bool a.q.2.2.1) ∧ V.cell? ⟨W.heap.size, 11, none⟩ = some (.bool a.q.2.2.2) ∧ V.cell? ⟨W.heap.size, 12, none⟩ = some (.slice pp ln cl)) ∧ (V.cell? ⟨W.heap.size + 1, 0, none⟩ = some (.int .i64 b.k) ∧ V.cell? ⟨W.heap.size + 1, 1, none⟩ = some (.int .i64 b.n) ∧ V.cell? ⟨W.heap.size + 1, 2, none⟩ = some (.string (bs b.s)) ∧ V.cell? ⟨W.heap.size + 1, 3, none⟩ = some (.int .i64 b.e) ∧ V.cell? ⟨W.heap.size + 1, 4, none⟩ = some (.int .i64 b.r.1) ∧ V.cell? ⟨W.heap.size + 1, 5, none⟩ = some (.int .i64 b.r.2.1) ∧ V.cell? ⟨W.heap.size + 1, 6, none⟩ = some (.bool b.r.2.2.1) ∧ V.cell? ⟨W.heap.size + 1, 7, none⟩ = some (.bool b.r.2.2.2) ∧ V.cell? ⟨W.heap.size + 1, 8, none⟩ = some (.int .i64 b.q.1) ∧ V.cell? ⟨W.heap.size + 1, 9, none⟩ = some (.int .i64 b.q.2.1) ∧ V.cell? ⟨W.heap.size + 1, 10, none⟩ = some (.bool b.q.2.2.1) ∧ V.cell? ⟨W.heap.size + 1, 11, none⟩ = some (.bool b.q.2.2.2) ∧ V.cell? ⟨W.heap.size + 1, 12, none⟩ = some (.slice qq lm cm))) := fun V e => ⟨(HB.out.1.ext e).2.1, (HB.out.2.ext e).2.1⟩
 refine bar_begin (B := fun i => i == 9) (S := fun V => ((V.cell? ⟨W.heap.size, 0, none⟩ = some (.int .i64 a.k) ∧ V.cell? ⟨W.heap.size, 1, none⟩ = some (.int .i64 a.n) ∧ V.cell? ⟨W.heap.size, 2, none⟩ = some (.string (bs a.s)) ∧ V.cell? ⟨W.heap.size, 3, none⟩ = some (.int .i64 a.e) ∧ V.cell? ⟨W.heap.size, 4, none⟩ = some (.int .i64 a.r.1) ∧ V.cell? ⟨W.heap.size, 5, none⟩ = some (.int .i64 a.r.2.1) ∧ V.cell? ⟨W.heap.size, 6, none⟩ = some (.bool a.r.2.2.1) ∧ V.cell? ⟨W.heap.size, 7, none⟩ = some (.bool a.r.2.2.2) ∧ V.cell? ⟨W.heap.size, 8, none⟩ = some (.int .i64 a.q.1) ∧ V.cell? ⟨W.heap.size, 9, none⟩ = some (.int .i64 a.q.2.1) ∧ V.cell? ⟨W.heap.size, 10, none⟩ = some (.bool a.q.2.2.1) ∧ V.cell? ⟨W.heap.size, 11, none⟩ = some (.bool a.q.2.2.2) ∧ V.cell? ⟨W.heap.size, 12, none⟩ = some (.slice pp ln cl)) ∧ (V.cell? ⟨W.heap.size + 1, 0, none⟩ = some (.int .i64 b.k) ∧ V.cell? ⟨W.heap.size + 1, 1, none⟩ = some (.int .i64 b.n) ∧ V.cell? ⟨W.heap.size + 1, 2, none⟩ = some (.string (bs b.s)) ∧ V.cell? ⟨W.heap.size + 1, 3, none⟩ = some (.int .i64 b.e) ∧ V.cell? ⟨W.heap.size + 1, 4, none⟩ = some (.int .i64 b.r.1) ∧ V.cell? ⟨W.heap.size + 1, 5, none⟩ = some (.int .i64 b.r.2.1) ∧ V.cell? ⟨W.heap.size + 1, 6, none⟩ = some (.bool b.r.2.2.1) ∧ V.cell? ⟨W.heap.size + 1, 7, none⟩ = some (.bool b.r.2.2.2) ∧ V.cell? ⟨W.heap.size + 1, 8, none⟩ = some (.int .i64 b.q.1) ∧ V.cell? ⟨W.heap.size + 1, 9, none⟩ = some (.int .i64 b.q.2.1) ∧ V.cell? ⟨W.heap.size + 1, 10, none⟩ = some (.bool b.q.2.2.1) ∧ V.cell? ⟨W.heap.size + 1, 11, none⟩ = some (.bool b.q.2.2.2) ∧ V.cell? ⟨W.heap.size + 1, 12, none⟩ = some (.slice qq lm cm)))) (by kernel_rfl) ?_
 have hS0 := mkS.out (World.drew W1) (Ext.refl _).drew
 refine bar_take (i := 0) (v := ?v0) rfl (by kernel_rfl) (by kernel_rfl) (by kernel_rfl) (by kernel_rfl) (fun _ _ _ h => h) (Or.inl ⟨by rfl, ?hy0⟩) hS0 ?rest0
 case hy0 => (intro W hSW; (try dsimp only at hSW); go_simp; with_reducible rfl)
 simp only [Act.put, List.setIfInBounds_toArray]
 refine bar_take (i := 1) (v := ?v1) rfl (by kernel_rfl) (by kernel_rfl) (by kernel_rfl) (by kernel_rfl) (fun _ _ _ h => h) (Or.inl ⟨by rfl, ?hy1⟩) hS0 ?rest1
 case hy1 => (intro W hSW; (try dsimp only at hSW); go_simp; with_reducible rfl)
 simp only [Act.put]
 refine bar_take (i := 2) (v := ?v2) rfl (by kernel_rfl) (by kernel_rfl) (by kernel_rfl) (by kernel_rfl) (fun _ _ _ h => h) (Or.inl ⟨by rfl, ?hy2⟩) hS0 ?rest2
 case hy2 => (intro W hSW; (try dsimp only at hSW); go_simp; with_reducible rfl)
 simp only [Act.put]
 refine bar_take (i := 4) (v := ?v4) rfl (by kernel_rfl) (by kernel_rfl) (by kernel_rfl) (by kernel_rfl) (fun _ _ _ h => h) (Or.inl ⟨by rfl, ?hy4⟩) hS0 ?rest4
 case hy4 => (intro W hSW; (try dsimp only at hSW); go_simp; with_reducible rfl)
 simp only [Act.put]
 refine bar_take (i := 5) (v := ?v5) rfl (by kernel_rfl) (by kernel_rfl) (by kernel_rfl) (by kernel_rfl) (fun _ _ _ h => h) (Or.inl ⟨by rfl, ?hy5⟩) hS0 ?rest5
 case hy5 => (intro W hSW; (try dsimp only at hSW); go_simp; with_reducible rfl)
 simp only [Act.put]
 refine bar_take (i := 6) (v := ?v6) rfl (by kernel_rfl) (by kernel_rfl) (by kernel_rfl) (by kernel_rfl) (fun _ _ _ h => h) (Or.inl ⟨by rfl, ?hy6⟩) hS0 ?rest6
 case hy6 => (intro W hSW; (try dsimp only at hSW); go_simp; with_reducible rfl)
 simp only [Act.put]
 refine bar_one (i := 3) (by kernel_rfl) rfl (fun KK hKK => ?_)
 go_simp
 go_wp2_with (go_at_call 49; refine Calls.mono (rform_any n a HR.out.1 r1 c1 _ (fun _ => True) pp ln cl (HI.out.1.ext (HW1.out.trans (Ext.refl _).drew))) ?_; rintro e w5 ⟨p1, l1, k1, rfl, L5, E5⟩)
 have X5 : Ext W1 w5 := Ext.trans (Ext.refl _).drew E5
 have HL5 : Hid (IsL w5 (fun _ => True) (.slice p1 l1 k1) (mpT (mvE (wrap64 (-r1)) (wrap64 (-c1))) n a).l) := L5.mono (fun _ _ _ => trivial)
 refine hKK.out _ _ (fun _ => mkS.out _ X5) ?_
 clear hKK KK hS0 L5 E5
 refine bar_one (i := 7) (by kernel_rfl) rfl (fun KK hKK => ?_)
 go_simp
 go_wp2_with (go_at_call 49; refine Calls.mono (rform_any n b HR.out.2.1 r2 c2 _ (fun _ => True) qq lm cm (HI.out.2.ext (HW1.out.trans X5))) ?_; rintro e w6 ⟨p2, l2, k2, rfl, L6, E6⟩)
 have X6 : Ext W1 w6 := X5.trans E6
 have HL6 : Hid (IsL w6 (fun _ => True) (.slice p1 l1 k1) (mpT (mvE (wrap64 (-r1)) (wrap64 (-c1))) n a).l ∧ IsL w6 (fun _ => True) (.slice p2 l2 k2) (mpT (mvE (wrap64 (-r2)) (wrap64 (-c2))) n b).l ∧ Ext W w6) := ⟨HL5.out.ext E6, L6.mono (fun _ _ _ => trivial), HW1.out.trans X6⟩
 refine hKK.out _ _ (fun _ => mkS.out _ X6) ?_
 clear hKK KK L6 E6 HL5
 have C8 := rsame_any (fun _ => True) n (mpT (mvE (wrap64 (-r1)) (wrap64 (-c1))) n a) HR.out.2.2 (mpT (mvE (wrap64 (-r2)) (wrap64 (-c2))) n b) w6 p1 p2 l1 k1 l2 k2 HL6.out.1 HL6.out.2.1
 obtain ⟨y1, hy1⟩ : ∃ y1, (mpT (mvE (wrap64 (-r1)) (wrap64 (-c1))) n a) = y1 := ⟨_, rfl⟩
 obtain ⟨y2, hy2⟩ : ∃ y2, (mpT (mvE (wrap64 (-r2)) (wrap64 (-c2))) n b) = y2 := ⟨_, rfl⟩
 have HYY : Hid ((mpT (mvE (wrap64 (-r1)) (wrap64 (-c1))) n a) = y1 ∧ (mpT (mvE (wrap64 (-r2)) (wrap64 (-c2))) n b) = y2) := ⟨hy1, hy2⟩
 rw [hy1, hy2] at C8 ⊢
 clear hy1 hy2
 unfold aggX
 refine bar_one (i := 8) (by kernel_rfl) rfl (fun KK hKK => ?_)
 go_simp
 go_wp2_with (go_at_call 48; refine Calls.mono C8 ?_; rintro e w7 ⟨rfl, E7⟩)
 have X7 : Ext W1 w7 := X6.trans E7
 refine hKK.out _ _ (fun _ => mkS.out _ X7) ?_
 clear hKK KK mkS
 have H7 : Hid (Ext W w7) := HL6.out.2.2.trans E7
 clear E7 X7 X6 X5
 refine bar_one (i := 9) (by kernel_rfl) rfl (fun KK hKK => ?_)
 go_simp
 refine hKK.out _ _ (fun h => absurd h (by decide)) ?_
 clear hKK KK
 refine bar_done (by kernel_rfl) ?_ _
 go_wp2_with fail
 go_ret
 exact ⟨by first | rfl | (rw [HYY.out.1, HYY.out.2]; rfl), H7.out⟩
open Go.RowKit
set_option maxHeartbeats 4000000
def alkP (N : Nat) (a b : Cl) : Bool := sameT N (mpT (mvE (wrap64 (-a.row)) (wrap64 (-a.col))) N a.x) (mpT (mvE (wrap64 (-b.row)) (wrap64 (-b.col))) N b.x)
def pAt (r k : Int) (c : Cl) : Bool := decide (c.row = r) && decide (c.col = k) && c.is
theorem find_at {l : List Cl} {r k : Int} {i : Nat} {x : Cl} (h : ∀ y ∈ l.take i, pAt r k y = false) (hx : l[i]? = some x) (hp : pAt r k x = true) : atP l r k = some x := by
 have e : l = l.take i ++ x :: l.drop (i + 1) := by
   obtain ⟨hi, rfl⟩ := List.getElem?_eq_some_iff.1 hx
   rw [← List.drop_eq_getElem_cons hi, List.take_append_drop]
 unfold atP
 rw [e, List.find?_append]
 have h1 : (l.take i).find? (fun c => decide (c.row = r) && decide (c.col = k) && c.is) = none := List.find?_eq_none.2 (fun y hy => by have := h y hy; unfold pAt at this; simpa using this)
 rw [h1]
 have : (decide (x.row = r) && decide (x.col = k) && x.is) = true := hp
 simp [this]
theorem cC_x {a : Cl} {lv u : Value} {m : Nat} (h : (cellsT a.x lv)[m]? = some u) : (cC a lv)[4 + m]? = some u := by
 have e : cC a lv = [.int .i64 a.row, .int .i64 a.col, .string a.txt, .bool a.is] ++ (cellsT a.x lv ++ [.int .i64 a.vk, .int .i64 a.vn, .string a.vs, .int .i64 a.ve]) := rfl
 have hm := (List.getElem?_eq_some_iff.1 h).1
 rw [e, List.getElem?_append_right (by simp), List.getElem?_append_left (by simpa using hm)]
 simpa using h
def AtQ (l : List Cl) (r k : Int) (e : Ending) : Prop := (e = .returned (.int .i64 (-1)) ∧ atP l r k = none) ∨ ∃ (i : Nat) (x : Cl), e = .returned (.int .i64 (i : Int)) ∧ l[i]? = some x ∧ atP l r k = some x ∧ x.row = r ∧ x.col = k
set_option maxRecDepth 100000 in
theorem rat_any (B : Nat) (l : List Cl) (r k : Int) (W : World) (v : Value) (h : RdC B W v l) (hl : l.length ≤ 100000) : Calls Try.prog 30 #[v, .int .i64 r, .int .i64 k] W fun e w' => AtQ l r k e ∧ Ext W w' := by
 obtain ⟨p, cp, rfl, _hcp⟩ := h.form
 obtain ⟨n, hn⟩ : ∃ n, l.length = n := ⟨_, rfl⟩
 have HL : Hid (RdC B W (.slice p n cp) l ∧ l.length = n ∧ n ≤ 100000) := ⟨by rw [← hn]; exact h, hn, by omega⟩
 rw [hn]
 clear h _hcp hn hl
 go_enter Try.func30, Try.ntmps30
 go_wp2_with fail
 go_loopw [7] (fun iv wr => ∃ i : Nat, iv = .int .i64 (i : Int) ∧ i ≤ n ∧ (∀ y ∈ l.take i, pAt r k y = false) ∧ wr = W) (fun iv _ => n - (intOf iv).toNat)
 case atStart => exact ⟨0, rfl, Nat.zero_le _, by simp, rfl⟩
 case round =>
   obtain ⟨i, rfl, hi, hq, rfl⟩ := hrel
   have HQ : Hid ((∀ y ∈ l.take i, pAt r k y = false) ∧ i ≤ n) := ⟨hq, hi⟩
   have wk : wrap64 ((i : Int) + 1) = ((i + 1 : Nat) : Int) := by have := HL.out.2.2; rw [iwrap64 (by omega) (by omega)]; rfl
   clear hq
   by_cases hlt : i < n
   · have hltI : (i : Int) < (n : Int) := by omega
     obtain ⟨x, hx⟩ : ∃ x, l[i]? = some x := ⟨_, List.getElem?_eq_getElem (by rw [HL.out.2.1]; exact hlt)⟩
     obtain ⟨gb, off, lv, rfl, hgb, _hT, hce⟩ := HL.out.1.at hx
     have HX : Hid (l[i]? = some x ∧ i < n) := ⟨hx, hlt⟩
     have e0 : wr.cell? ⟨gb, off + i * 21, none⟩ = some (.int .i64 x.row) := hce 0 _ rfl
     have e1 : wr.cell? ⟨gb, off + i * 21 + 1, none⟩ = some (.int .i64 x.col) := hce 1 _ rfl
     have e3 : wr.cell? ⟨gb, off + i * 21 + 3, none⟩ = some (.bool x.is) := hce 3 _ rfl
     obtain ⟨b, hb⟩ : ∃ b, x.is = b := ⟨_, rfl⟩
     rw [hb] at e3
     have HB : Hid (x.is = b) := hb
     have HN : Hid (pAt r k x = false → ∀ y ∈ l.take (i + 1), pAt r k y = false) := fun h y hy => by
       rw [take_at HX.out.1] at hy
       rcases List.mem_append.1 hy with hy | hy
       · exact HQ.out.1 y hy
       · simp at hy; subst hy; exact h
     clear hce _hT hx hb hi hlt
     by_cases h1 : x.row = r
     · have d1 : (x.row == r) = true := by simp [h1]
       by_cases h2 : x.col = k
       · have d2 : (x.col == k) = true := by simp [h2]
         have HP : Hid (pAt r k x = b) := by show pAt r k x = b; unfold pAt; rw [HB.out]; simp [h1, h2]
         have HR : Hid (x.row = r ∧ x.col = k) := ⟨h1, h2⟩
         clear h1 h2
         cases b with
         | false =>
           go_wp2_with fail
           go_roundw
           case rel => exact ⟨i + 1, by rw [wk], HX.out.2, HN.out HP.out, by first | rfl | trivial⟩
           case measure => rw [wk]; have := HX.out.2; simp [intOf]; omega
         | true =>
           go_wp2_with fail
           go_ret
           exact ⟨.inr ⟨i, x, rfl, HX.out.1, find_at HQ.out.1 HX.out.1 HP.out, HR.out⟩, Ext.refl _⟩
       · have d2 : (x.col == k) = false := by simp [h2]
         have HP : Hid (pAt r k x = false) := by show pAt r k x = false; unfold pAt; simp [h2]
         clear h1 h2
         go_wp2_with fail
         go_roundw
         case rel => exact ⟨i + 1, by rw [wk], HX.out.2, HN.out HP.out, by first | rfl | trivial⟩
         case measure => rw [wk]; have := HX.out.2; simp [intOf]; omega
     · have d1 : (x.row == r) = false := by simp [h1]
       have HP : Hid (pAt r k x = false) := by show pAt r k x = false; unfold pAt; simp [h1]
       clear h1
       go_wp2_with fail
       go_roundw
       case rel => exact ⟨i + 1, by rw [wk], HX.out.2, HN.out HP.out, by first | rfl | trivial⟩
       case measure => rw [wk]; have := HX.out.2; simp [intOf]; omega
   · have hltI : (n : Int) ≤ (i : Int) := by omega
     have HA : Hid (atP l r k = none) := by
       show _ = _
       unfold atP
       refine List.find?_eq_none.2 (fun y hy => ?_)
       have := HQ.out.1 y (by rw [List.take_of_length_le (by rw [HL.out.2.1]; omega)]; exact hy)
       unfold pAt at this
       simpa using this
     clear hlt hi
     go_wp2_with fail
     go_ret
     exact ⟨.inl ⟨rfl, HA.out⟩, Ext.refl _⟩
set_option maxRecDepth 100000 in
theorem ron_any (N B : Nat) (l : List Cl) (r k : Int) (hr : -1000000 ≤ r ∧ r ≤ 1000000) (W : World) (v : Value) (h : RdC B W v l) (hl : l.length ≤ 100000) (hh : ∀ c ∈ l, Hr N c.x) : Calls Try.prog 17 #[v, .int .i64 r, .int .i64 k] W fun e w' => e = .returned (.bool (onP (alkP N) l r k)) ∧ Ext W w' := by
 have c1 := rat_any B l r k W v h hl
 have c2 := fun V (e : Ext W V) => rat_any B l (r + 1) k V v (h.ext e) hl
 have w1 : IntKind.i64.wrap (r + 1) = r + 1 := iwrap (by omega) (by omega)
 obtain ⟨p, cp, rfl, _hcp⟩ := h.form
 obtain ⟨n, hn⟩ : ∃ n, l.length = n := ⟨_, rfl⟩
 have HL : Hid (RdC B W (.slice p n cp) l ∧ l.length = n ∧ n ≤ 100000 ∧ ∀ c ∈ l, Hr N c.x) := ⟨by rw [← hn]; exact h, hn, by omega, hh⟩
 obtain ⟨q, hq⟩ : ∃ q, onP (alkP N) l r k = q := ⟨_, rfl⟩
 have HQ : Hid (onP (alkP N) l r k = q) := hq
 rw [hn] at c1 c2
 rw [hn, hq]
 clear h _hcp hn hl hh hq hr
 go_enter Try.func17, Try.ntmps17
 go_wp2_with fail
 refine c1.mono ?_
 rintro e w1' ⟨A1, E1⟩
 rcases A1 with ⟨rfl, hn1⟩ | ⟨i, a, rfl, hia, ha, har, hac⟩
 · have H1 : Hid (atP l r k = none ∧ Ext W w1') := ⟨hn1, E1⟩
   clear c1 hn1
   go_wp2_with fail
   refine (c2 _ E1).mono ?_
   rintro e w2 ⟨A2, E2⟩
   have H2 : Hid (Ext W w2) := H1.out.2.trans E2
   have HF : Hid (q = false) := by show q = false; rw [← HQ.out]; unfold onP; rw [H1.out.1]
   obtain ⟨z, rfl⟩ : ∃ z : Int, e = .returned (.int .i64 z) := by
     rcases A2 with ⟨h, _⟩ | ⟨i, _, h, _⟩
     · exact ⟨_, h⟩
     · exact ⟨_, h⟩
   clear A2 E2 E1 c2 w1
   go_upto_region 2 with fail
   refine wp_region_held_drew (S := (fun _ => True)) (by kernel_rfl) ?_ (fun hHeld0 => ?_)
   · trivial
   refine wpAnyH_take (i := 0) (oi := ⟨some 18, .move (.tmp 7), 3, "ref.go:38", #[], none⟩) (v := ?_) rfl (by kernel_rfl) (by kernel_rfl) (by kernel_rfl) (fun _ _ _ h => h) (Or.inl ⟨by rfl, ?_⟩) (by assumption) ?_
   rotate_left
   · intro w hSw; (try dsimp only at hSw); first | (go_simp; done) | (go_simp; with_reducible rfl)
   try simp only [Act.put, List.setIfInBounds_toArray, List.set_cons_zero, List.set_cons_succ]
   refine wpAnyH_take (i := 1) (oi := ⟨some 19, .binOp .geq 3 (.tmp 18) (.const (.int .i64 0)) 3, 4, "ref.go:38", #[⟨0, .data⟩], none⟩) (v := ?_) rfl (by kernel_rfl) (by kernel_rfl) (by kernel_rfl) (fun _ _ _ h => h) (Or.inl ⟨by rfl, ?_⟩) (by assumption) ?_
   rotate_left
   · intro w hSw; (try dsimp only at hSw); first | (go_simp; done) | (go_simp; with_reducible rfl)
   try simp only [Act.put, List.setIfInBounds_toArray, List.set_cons_zero, List.set_cons_succ]
   refine wpAnyH_take (i := 2) (oi := ⟨some 20, .move (.tmp 19), 4, "ref.go:38", #[⟨1, .data⟩], none⟩) (v := ?_) rfl (by kernel_rfl) (by kernel_rfl) (by kernel_rfl) (fun _ _ _ h => h) (Or.inl ⟨by rfl, ?_⟩) (by assumption) ?_
   rotate_left
   · intro w hSw; (try dsimp only at hSw); first | (go_simp; done) | (go_simp; with_reducible rfl)
   try simp only [Act.put, List.setIfInBounds_toArray, List.set_cons_zero, List.set_cons_succ]
   refine wpAnyH_take (i := 3) (oi := ⟨some 21, .move (.tmp 8), 3, "ref.go:38", #[⟨2, .guard⟩], some (2, true)⟩) (v := undef) rfl (by kernel_rfl) (by kernel_rfl) (by kernel_rfl) (fun _ _ _ h => h) (Or.inr ⟨by rfl, rfl⟩) (by assumption) ?_
   try simp only [Act.put, List.setIfInBounds_toArray, List.set_cons_zero, List.set_cons_succ]
   refine wpAnyH_take (i := 4) (oi := ⟨some 22, .binOp .geq 3 (.tmp 21) (.const (.int .i64 0)) 3, 4, "ref.go:38", #[⟨3, .data⟩, ⟨2, .guard⟩], some (2, true)⟩) (v := undef) rfl (by kernel_rfl) (by kernel_rfl) (by kernel_rfl) (fun _ _ _ h => h) (Or.inr ⟨by rfl, rfl⟩) (by assumption) ?_
   try simp only [Act.put, List.setIfInBounds_toArray, List.set_cons_zero, List.set_cons_succ]
   refine wpAnyH_take (i := 5) (oi := ⟨some 23, .pick (.tmp 20) (.tmp 22) (.const (.bool false)), 4, "ref.go:38", #[⟨2, .data⟩, ⟨4, .data⟩], none⟩) (v := ?_) rfl (by kernel_rfl) (by kernel_rfl) (by kernel_rfl) (fun _ _ _ h => h) (Or.inl ⟨by rfl, ?_⟩) (by assumption) ?_
   rotate_left
   · intro w hSw; (try dsimp only at hSw); first | (go_simp; done) | (go_simp; with_reducible rfl)
   try simp only [Act.put, List.setIfInBounds_toArray, List.set_cons_zero, List.set_cons_succ]
   refine wpAnyH_take (i := 6) (oi := ⟨some 24, .move (.tmp 23), 4, "ref.go:38", #[⟨5, .data⟩, ⟨2, .chain⟩], none⟩) (v := ?_) rfl (by kernel_rfl) (by kernel_rfl) (by kernel_rfl) (fun _ _ _ h => h) (Or.inl ⟨by rfl, ?_⟩) (by assumption) ?_
   rotate_left
   · intro w hSw; (try dsimp only at hSw); first | (go_simp; done) | (go_simp; with_reducible rfl)
   try simp only [Act.put, List.setIfInBounds_toArray, List.set_cons_zero, List.set_cons_succ]
   refine wpAnyH_take (i := 7) (oi := ⟨some 25, .move (.tmp 0), 22, "ref.go:38", #[⟨6, .guard⟩], some (6, true)⟩) (v := undef) rfl (by kernel_rfl) (by kernel_rfl) (by kernel_rfl) (fun _ _ _ h => h) (Or.inr ⟨by rfl, rfl⟩) (by assumption) ?_
   try simp only [Act.put, List.setIfInBounds_toArray, List.set_cons_zero, List.set_cons_succ]
   refine wpAnyH_take (i := 8) (oi := ⟨some 26, .move (.tmp 7), 3, "ref.go:38", #[⟨6, .guard⟩], some (6, true)⟩) (v := undef) rfl (by kernel_rfl) (by kernel_rfl) (by kernel_rfl) (fun _ _ _ h => h) (Or.inr ⟨by rfl, rfl⟩) (by assumption) ?_
   try simp only [Act.put, List.setIfInBounds_toArray, List.set_cons_zero, List.set_cons_succ]
   refine wpAnyH_take (i := 9) (oi := ⟨some 27, .indexAddr 22 (.tmp 25) (.tmp 26), 0, "ref.go:38", #[⟨7, .data⟩, ⟨8, .data⟩, ⟨6, .guard⟩], some (6, true)⟩) (v := undef) rfl (by kernel_rfl) (by kernel_rfl) (by kernel_rfl) (fun _ _ _ h => h) (Or.inr ⟨by rfl, rfl⟩) (by assumption) ?_
   try simp only [Act.put, List.setIfInBounds_toArray, List.set_cons_zero, List.set_cons_succ]
   refine wpAnyH_take (i := 10) (oi := ⟨some 28, .fieldAddr 33 (.tmp 27) 4, 0, "ref.go:38", #[⟨9, .data⟩, ⟨6, .guard⟩], some (6, true)⟩) (v := undef) rfl (by kernel_rfl) (by kernel_rfl) (by kernel_rfl) (fun _ _ _ h => h) (Or.inr ⟨by rfl, rfl⟩) (by assumption) ?_
   try simp only [Act.put, List.setIfInBounds_toArray, List.set_cons_zero, List.set_cons_succ]
   refine wpAnyH_take (i := 11) (oi := ⟨some 29, .load 29 (.tmp 28), 29, "ref.go:38", #[⟨10, .data⟩, ⟨6, .guard⟩], some (6, true)⟩) (v := undef) rfl (by kernel_rfl) (by kernel_rfl) (by kernel_rfl) (fun _ _ _ h => h) (Or.inr ⟨by rfl, rfl⟩) (by assumption) ?_
   try simp only [Act.put, List.setIfInBounds_toArray, List.set_cons_zero, List.set_cons_succ]
   refine wpAnyH_take (i := 12) (oi := ⟨some 30, .move (.tmp 1), 3, "ref.go:38", #[⟨6, .guard⟩], some (6, true)⟩) (v := undef) rfl (by kernel_rfl) (by kernel_rfl) (by kernel_rfl) (fun _ _ _ h => h) (Or.inr ⟨by rfl, rfl⟩) (by assumption) ?_
   try simp only [Act.put, List.setIfInBounds_toArray, List.set_cons_zero, List.set_cons_succ]
   refine wpAnyH_take (i := 13) (oi := ⟨some 31, .move (.tmp 2), 3, "ref.go:38", #[⟨6, .guard⟩], some (6, true)⟩) (v := undef) rfl (by kernel_rfl) (by kernel_rfl) (by kernel_rfl) (fun _ _ _ h => h) (Or.inr ⟨by rfl, rfl⟩) (by assumption) ?_
   try simp only [Act.put, List.setIfInBounds_toArray, List.set_cons_zero, List.set_cons_succ]
   refine wpAnyH_take (i := 14) (oi := ⟨some 32, .move (.tmp 0), 22, "ref.go:38", #[⟨6, .guard⟩], some (6, true)⟩) (v := undef) rfl (by kernel_rfl) (by kernel_rfl) (by kernel_rfl) (fun _ _ _ h => h) (Or.inr ⟨by rfl, rfl⟩) (by assumption) ?_
   try simp only [Act.put, List.setIfInBounds_toArray, List.set_cons_zero, List.set_cons_succ]
   refine wpAnyH_take (i := 15) (oi := ⟨some 33, .move (.tmp 8), 3, "ref.go:38", #[⟨6, .guard⟩], some (6, true)⟩) (v := undef) rfl (by kernel_rfl) (by kernel_rfl) (by kernel_rfl) (fun _ _ _ h => h) (Or.inr ⟨by rfl, rfl⟩) (by assumption) ?_
   try simp only [Act.put, List.setIfInBounds_toArray, List.set_cons_zero, List.set_cons_succ]
   refine wpAnyH_take (i := 16) (oi := ⟨some 34, .indexAddr 22 (.tmp 32) (.tmp 33), 0, "ref.go:38", #[⟨14, .data⟩, ⟨15, .data⟩, ⟨6, .guard⟩], some (6, true)⟩) (v := undef) rfl (by kernel_rfl) (by kernel_rfl) (by kernel_rfl) (fun _ _ _ h => h) (Or.inr ⟨by rfl, rfl⟩) (by assumption) ?_
   try simp only [Act.put, List.setIfInBounds_toArray, List.set_cons_zero, List.set_cons_succ]
   refine wpAnyH_take (i := 17) (oi := ⟨some 35, .fieldAddr 33 (.tmp 34) 4, 0, "ref.go:38", #[⟨16, .data⟩, ⟨6, .guard⟩], some (6, true)⟩) (v := undef) rfl (by kernel_rfl) (by kernel_rfl) (by kernel_rfl) (fun _ _ _ h => h) (Or.inr ⟨by rfl, rfl⟩) (by assumption) ?_
   try simp only [Act.put, List.setIfInBounds_toArray, List.set_cons_zero, List.set_cons_succ]
   refine wpAnyH_take (i := 18) (oi := ⟨some 36, .load 29 (.tmp 35), 29, "ref.go:38", #[⟨17, .data⟩, ⟨6, .guard⟩], some (6, true)⟩) (v := undef) rfl (by kernel_rfl) (by kernel_rfl) (by kernel_rfl) (fun _ _ _ h => h) (Or.inr ⟨by rfl, rfl⟩) (by assumption) ?_
   try simp only [Act.put, List.setIfInBounds_toArray, List.set_cons_zero, List.set_cons_succ]
   refine wpAnyH_take (i := 19) (oi := ⟨some 37, .move (.tmp 1), 3, "ref.go:38", #[⟨6, .guard⟩], some (6, true)⟩) (v := undef) rfl (by kernel_rfl) (by kernel_rfl) (by kernel_rfl) (fun _ _ _ h => h) (Or.inr ⟨by rfl, rfl⟩) (by assumption) ?_
   try simp only [Act.put, List.setIfInBounds_toArray, List.set_cons_zero, List.set_cons_succ]
   refine wpAnyH_take (i := 20) (oi := ⟨some 38, .binOp .add 3 (.tmp 37) (.const (.int .i64 1)) 3, 3, "ref.go:38", #[⟨19, .data⟩, ⟨6, .guard⟩], some (6, true)⟩) (v := undef) rfl (by kernel_rfl) (by kernel_rfl) (by kernel_rfl) (fun _ _ _ h => h) (Or.inr ⟨by rfl, rfl⟩) (by assumption) ?_
   try simp only [Act.put, List.setIfInBounds_toArray, List.set_cons_zero, List.set_cons_succ]
   refine wpAnyH_take (i := 21) (oi := ⟨some 39, .move (.tmp 2), 3, "ref.go:38", #[⟨6, .guard⟩], some (6, true)⟩) (v := undef) rfl (by kernel_rfl) (by kernel_rfl) (by kernel_rfl) (fun _ _ _ h => h) (Or.inr ⟨by rfl, rfl⟩) (by assumption) ?_
   try simp only [Act.put, List.setIfInBounds_toArray, List.set_cons_zero, List.set_cons_succ]
   refine wpAnyH_take (i := 22) (oi := ⟨some 40, .call { callee := .value (.func 31), args := #[.tmp 29, .tmp 30, .tmp 31, .tmp 36, .tmp 38, .tmp 39], argTypes := #[29, 3, 3, 29, 3, 3] }, 4, "ref.go:38", #[⟨11, .data⟩, ⟨12, .data⟩, ⟨13, .data⟩, ⟨18, .data⟩, ⟨20, .data⟩, ⟨21, .data⟩, ⟨6, .chain⟩, ⟨6, .guard⟩], some (6, true)⟩) (v := undef) rfl (by kernel_rfl) (by kernel_rfl) (by kernel_rfl) (fun _ _ _ h => h) (Or.inr ⟨by rfl, rfl⟩) (by assumption) ?_
   try simp only [Act.put, List.setIfInBounds_toArray, List.set_cons_zero, List.set_cons_succ]
   refine wpAnyH_take (i := 23) (oi := ⟨some 41, .pick (.tmp 24) (.tmp 40) (.const (.bool false)), 4, "ref.go:38", #[⟨6, .data⟩, ⟨22, .data⟩], none⟩) (v := ?_) rfl (by kernel_rfl) (by kernel_rfl) (by kernel_rfl) (fun _ _ _ h => h) (Or.inl ⟨by rfl, ?_⟩) (by assumption) ?_
   rotate_left
   · intro w hSw; (try dsimp only at hSw); first | (go_simp; done) | (go_simp; with_reducible rfl)
   try simp only [Act.put, List.setIfInBounds_toArray, List.set_cons_zero, List.set_cons_succ]
   refine wpAnyH_take (i := 24) (oi := ⟨some 6, .assign (.tmp 41), 4, "ref.go:38", #[⟨23, .data⟩, ⟨22, .chain⟩, ⟨0, .phase⟩, ⟨1, .phase⟩, ⟨2, .phase⟩, ⟨3, .phase⟩, ⟨4, .phase⟩, ⟨5, .phase⟩, ⟨6, .phase⟩, ⟨7, .phase⟩, ⟨8, .phase⟩, ⟨9, .phase⟩, ⟨10, .phase⟩, ⟨11, .phase⟩, ⟨12, .phase⟩, ⟨13, .phase⟩, ⟨14, .phase⟩, ⟨15, .phase⟩, ⟨16, .phase⟩, ⟨17, .phase⟩, ⟨18, .phase⟩, ⟨19, .phase⟩, ⟨20, .phase⟩, ⟨21, .phase⟩, ⟨22, .phase⟩, ⟨23, .phase⟩], none⟩) (v := ?_) rfl (by kernel_rfl) (by kernel_rfl) (by kernel_rfl) (fun _ _ _ h => h) (Or.inl ⟨by rfl, ?_⟩) (by assumption) ?_
   rotate_left
   · intro w hSw; (try dsimp only at hSw); first | (go_simp; done) | (go_simp; with_reducible rfl)
   try simp only [Act.put, List.setIfInBounds_toArray, List.set_cons_zero, List.set_cons_succ]
   refine wpAnyH_done (by kernel_rfl) ?_ _
   go_wp2_with fail
   go_ret
   exact ⟨by rw [HF.out]; rfl, H2.out.drew⟩
 · have H1 : Hid (l[i]? = some a ∧ atP l r k = some a ∧ a.row = r ∧ a.col = k ∧ Ext W w1') := ⟨hia, ha, har, hac, E1⟩
   have hin : i < n := by rw [← HL.out.2.1]; exact (List.getElem?_eq_some_iff.1 hia).1
   obtain ⟨iI, hI⟩ : ∃ z : Int, z = (i : Int) := ⟨_, rfl⟩
   have HI : Hid (iI = (i : Int)) := hI
   have gi0 : 0 ≤ iI := by omega
   have giN : iI < (n : Int) := by omega
   have hix : iI.toNat = i := by rw [hI]; rfl
   rw [← hI]
   clear c1 hia ha har hac hI hin
   go_wp2_with fail
   refine (c2 _ E1).mono ?_
   rintro e w2 ⟨A2, E2⟩
   have H2 : Hid (Ext W w2) := H1.out.2.2.2.2.trans E2
   rcases A2 with ⟨rfl, hn2⟩ | ⟨j, b, rfl, hjb, hb, hbr, hbc⟩
   · have HF : Hid (q = false) := by show q = false; rw [← HQ.out]; unfold onP; rw [H1.out.2.1, hn2]
     clear hn2 E1 E2 c2 w1
     go_upto_region 2 with fail
     refine wp_region_held_drew (S := (fun _ => True)) (by kernel_rfl) ?_ (fun hHeld0 => ?_)
     · trivial
     refine wpAnyH_take (i := 0) (oi := ⟨some 18, .move (.tmp 7), 3, "ref.go:38", #[], none⟩) (v := ?_) rfl (by kernel_rfl) (by kernel_rfl) (by kernel_rfl) (fun _ _ _ h => h) (Or.inl ⟨by rfl, ?_⟩) (by assumption) ?_
     rotate_left
     · intro w hSw; (try dsimp only at hSw); first | (go_simp; done) | (go_simp; with_reducible rfl)
     try simp only [Act.put, List.setIfInBounds_toArray, List.set_cons_zero, List.set_cons_succ]
     refine wpAnyH_take (i := 1) (oi := ⟨some 19, .binOp .geq 3 (.tmp 18) (.const (.int .i64 0)) 3, 4, "ref.go:38", #[⟨0, .data⟩], none⟩) (v := ?_) rfl (by kernel_rfl) (by kernel_rfl) (by kernel_rfl) (fun _ _ _ h => h) (Or.inl ⟨by rfl, ?_⟩) (by assumption) ?_
     rotate_left
     · intro w hSw; (try dsimp only at hSw); first | (go_simp; done) | (go_simp; with_reducible rfl)
     try simp only [Act.put, List.setIfInBounds_toArray, List.set_cons_zero, List.set_cons_succ]
     refine wpAnyH_take (i := 2) (oi := ⟨some 20, .move (.tmp 19), 4, "ref.go:38", #[⟨1, .data⟩], none⟩) (v := ?_) rfl (by kernel_rfl) (by kernel_rfl) (by kernel_rfl) (fun _ _ _ h => h) (Or.inl ⟨by rfl, ?_⟩) (by assumption) ?_
     rotate_left
     · intro w hSw; (try dsimp only at hSw); first | (go_simp; done) | (go_simp; with_reducible rfl)
     try simp only [Act.put, List.setIfInBounds_toArray, List.set_cons_zero, List.set_cons_succ]
     refine wpAnyH_take (i := 3) (oi := ⟨some 21, .move (.tmp 8), 3, "ref.go:38", #[⟨2, .guard⟩], some (2, true)⟩) (v := ?_) rfl (by kernel_rfl) (by kernel_rfl) (by kernel_rfl) (fun _ _ _ h => h) (Or.inl ⟨by rfl, ?_⟩) (by assumption) ?_
     rotate_left
     · intro w hSw; (try dsimp only at hSw); first | (go_simp; done) | (go_simp; with_reducible rfl)
     try simp only [Act.put, List.setIfInBounds_toArray, List.set_cons_zero, List.set_cons_succ]
     refine wpAnyH_take (i := 4) (oi := ⟨some 22, .binOp .geq 3 (.tmp 21) (.const (.int .i64 0)) 3, 4, "ref.go:38", #[⟨3, .data⟩, ⟨2, .guard⟩], some (2, true)⟩) (v := ?_) rfl (by kernel_rfl) (by kernel_rfl) (by kernel_rfl) (fun _ _ _ h => h) (Or.inl ⟨by rfl, ?_⟩) (by assumption) ?_
     rotate_left
     · intro w hSw; (try dsimp only at hSw); first | (go_simp; done) | (go_simp; with_reducible rfl)
     try simp only [Act.put, List.setIfInBounds_toArray, List.set_cons_zero, List.set_cons_succ]
     refine wpAnyH_take (i := 5) (oi := ⟨some 23, .pick (.tmp 20) (.tmp 22) (.const (.bool false)), 4, "ref.go:38", #[⟨2, .data⟩, ⟨4, .data⟩], none⟩) (v := ?_) rfl (by kernel_rfl) (by kernel_rfl) (by kernel_rfl) (fun _ _ _ h => h) (Or.inl ⟨by rfl, ?_⟩) (by assumption) ?_
     rotate_left
     · intro w hSw; (try dsimp only at hSw); first | (go_simp; done) | (go_simp; with_reducible rfl)
     try simp only [Act.put, List.setIfInBounds_toArray, List.set_cons_zero, List.set_cons_succ]
     refine wpAnyH_take (i := 6) (oi := ⟨some 24, .move (.tmp 23), 4, "ref.go:38", #[⟨5, .data⟩, ⟨2, .chain⟩], none⟩) (v := ?_) rfl (by kernel_rfl) (by kernel_rfl) (by kernel_rfl) (fun _ _ _ h => h) (Or.inl ⟨by rfl, ?_⟩) (by assumption) ?_
     rotate_left
     · intro w hSw; (try dsimp only at hSw); first | (go_simp; done) | (go_simp; with_reducible rfl)
     try simp only [Act.put, List.setIfInBounds_toArray, List.set_cons_zero, List.set_cons_succ]
     refine wpAnyH_take (i := 7) (oi := ⟨some 25, .move (.tmp 0), 22, "ref.go:38", #[⟨6, .guard⟩], some (6, true)⟩) (v := undef) rfl (by kernel_rfl) (by kernel_rfl) (by kernel_rfl) (fun _ _ _ h => h) (Or.inr ⟨by rfl, rfl⟩) (by assumption) ?_
     try simp only [Act.put, List.setIfInBounds_toArray, List.set_cons_zero, List.set_cons_succ]
     refine wpAnyH_take (i := 8) (oi := ⟨some 26, .move (.tmp 7), 3, "ref.go:38", #[⟨6, .guard⟩], some (6, true)⟩) (v := undef) rfl (by kernel_rfl) (by kernel_rfl) (by kernel_rfl) (fun _ _ _ h => h) (Or.inr ⟨by rfl, rfl⟩) (by assumption) ?_
     try simp only [Act.put, List.setIfInBounds_toArray, List.set_cons_zero, List.set_cons_succ]
     refine wpAnyH_take (i := 9) (oi := ⟨some 27, .indexAddr 22 (.tmp 25) (.tmp 26), 0, "ref.go:38", #[⟨7, .data⟩, ⟨8, .data⟩, ⟨6, .guard⟩], some (6, true)⟩) (v := undef) rfl (by kernel_rfl) (by kernel_rfl) (by kernel_rfl) (fun _ _ _ h => h) (Or.inr ⟨by rfl, rfl⟩) (by assumption) ?_
     try simp only [Act.put, List.setIfInBounds_toArray, List.set_cons_zero, List.set_cons_succ]
     refine wpAnyH_take (i := 10) (oi := ⟨some 28, .fieldAddr 33 (.tmp 27) 4, 0, "ref.go:38", #[⟨9, .data⟩, ⟨6, .guard⟩], some (6, true)⟩) (v := undef) rfl (by kernel_rfl) (by kernel_rfl) (by kernel_rfl) (fun _ _ _ h => h) (Or.inr ⟨by rfl, rfl⟩) (by assumption) ?_
     try simp only [Act.put, List.setIfInBounds_toArray, List.set_cons_zero, List.set_cons_succ]
     refine wpAnyH_take (i := 11) (oi := ⟨some 29, .load 29 (.tmp 28), 29, "ref.go:38", #[⟨10, .data⟩, ⟨6, .guard⟩], some (6, true)⟩) (v := undef) rfl (by kernel_rfl) (by kernel_rfl) (by kernel_rfl) (fun _ _ _ h => h) (Or.inr ⟨by rfl, rfl⟩) (by assumption) ?_
     try simp only [Act.put, List.setIfInBounds_toArray, List.set_cons_zero, List.set_cons_succ]
     refine wpAnyH_take (i := 12) (oi := ⟨some 30, .move (.tmp 1), 3, "ref.go:38", #[⟨6, .guard⟩], some (6, true)⟩) (v := undef) rfl (by kernel_rfl) (by kernel_rfl) (by kernel_rfl) (fun _ _ _ h => h) (Or.inr ⟨by rfl, rfl⟩) (by assumption) ?_
     try simp only [Act.put, List.setIfInBounds_toArray, List.set_cons_zero, List.set_cons_succ]
     refine wpAnyH_take (i := 13) (oi := ⟨some 31, .move (.tmp 2), 3, "ref.go:38", #[⟨6, .guard⟩], some (6, true)⟩) (v := undef) rfl (by kernel_rfl) (by kernel_rfl) (by kernel_rfl) (fun _ _ _ h => h) (Or.inr ⟨by rfl, rfl⟩) (by assumption) ?_
     try simp only [Act.put, List.setIfInBounds_toArray, List.set_cons_zero, List.set_cons_succ]
     refine wpAnyH_take (i := 14) (oi := ⟨some 32, .move (.tmp 0), 22, "ref.go:38", #[⟨6, .guard⟩], some (6, true)⟩) (v := undef) rfl (by kernel_rfl) (by kernel_rfl) (by kernel_rfl) (fun _ _ _ h => h) (Or.inr ⟨by rfl, rfl⟩) (by assumption) ?_
     try simp only [Act.put, List.setIfInBounds_toArray, List.set_cons_zero, List.set_cons_succ]
     refine wpAnyH_take (i := 15) (oi := ⟨some 33, .move (.tmp 8), 3, "ref.go:38", #[⟨6, .guard⟩], some (6, true)⟩) (v := undef) rfl (by kernel_rfl) (by kernel_rfl) (by kernel_rfl) (fun _ _ _ h => h) (Or.inr ⟨by rfl, rfl⟩) (by assumption) ?_
     try simp only [Act.put, List.setIfInBounds_toArray, List.set_cons_zero, List.set_cons_succ]
     refine wpAnyH_take (i := 16) (oi := ⟨some 34, .indexAddr 22 (.tmp 32) (.tmp 33), 0, "ref.go:38", #[⟨14, .data⟩, ⟨15, .data⟩, ⟨6, .guard⟩], some (6, true)⟩) (v := undef) rfl (by kernel_rfl) (by kernel_rfl) (by kernel_rfl) (fun _ _ _ h => h) (Or.inr ⟨by rfl, rfl⟩) (by assumption) ?_
     try simp only [Act.put, List.setIfInBounds_toArray, List.set_cons_zero, List.set_cons_succ]
     refine wpAnyH_take (i := 17) (oi := ⟨some 35, .fieldAddr 33 (.tmp 34) 4, 0, "ref.go:38", #[⟨16, .data⟩, ⟨6, .guard⟩], some (6, true)⟩) (v := undef) rfl (by kernel_rfl) (by kernel_rfl) (by kernel_rfl) (fun _ _ _ h => h) (Or.inr ⟨by rfl, rfl⟩) (by assumption) ?_
     try simp only [Act.put, List.setIfInBounds_toArray, List.set_cons_zero, List.set_cons_succ]
     refine wpAnyH_take (i := 18) (oi := ⟨some 36, .load 29 (.tmp 35), 29, "ref.go:38", #[⟨17, .data⟩, ⟨6, .guard⟩], some (6, true)⟩) (v := undef) rfl (by kernel_rfl) (by kernel_rfl) (by kernel_rfl) (fun _ _ _ h => h) (Or.inr ⟨by rfl, rfl⟩) (by assumption) ?_
     try simp only [Act.put, List.setIfInBounds_toArray, List.set_cons_zero, List.set_cons_succ]
     refine wpAnyH_take (i := 19) (oi := ⟨some 37, .move (.tmp 1), 3, "ref.go:38", #[⟨6, .guard⟩], some (6, true)⟩) (v := undef) rfl (by kernel_rfl) (by kernel_rfl) (by kernel_rfl) (fun _ _ _ h => h) (Or.inr ⟨by rfl, rfl⟩) (by assumption) ?_
     try simp only [Act.put, List.setIfInBounds_toArray, List.set_cons_zero, List.set_cons_succ]
     refine wpAnyH_take (i := 20) (oi := ⟨some 38, .binOp .add 3 (.tmp 37) (.const (.int .i64 1)) 3, 3, "ref.go:38", #[⟨19, .data⟩, ⟨6, .guard⟩], some (6, true)⟩) (v := undef) rfl (by kernel_rfl) (by kernel_rfl) (by kernel_rfl) (fun _ _ _ h => h) (Or.inr ⟨by rfl, rfl⟩) (by assumption) ?_
     try simp only [Act.put, List.setIfInBounds_toArray, List.set_cons_zero, List.set_cons_succ]
     refine wpAnyH_take (i := 21) (oi := ⟨some 39, .move (.tmp 2), 3, "ref.go:38", #[⟨6, .guard⟩], some (6, true)⟩) (v := undef) rfl (by kernel_rfl) (by kernel_rfl) (by kernel_rfl) (fun _ _ _ h => h) (Or.inr ⟨by rfl, rfl⟩) (by assumption) ?_
     try simp only [Act.put, List.setIfInBounds_toArray, List.set_cons_zero, List.set_cons_succ]
     refine wpAnyH_take (i := 22) (oi := ⟨some 40, .call { callee := .value (.func 31), args := #[.tmp 29, .tmp 30, .tmp 31, .tmp 36, .tmp 38, .tmp 39], argTypes := #[29, 3, 3, 29, 3, 3] }, 4, "ref.go:38", #[⟨11, .data⟩, ⟨12, .data⟩, ⟨13, .data⟩, ⟨18, .data⟩, ⟨20, .data⟩, ⟨21, .data⟩, ⟨6, .chain⟩, ⟨6, .guard⟩], some (6, true)⟩) (v := undef) rfl (by kernel_rfl) (by kernel_rfl) (by kernel_rfl) (fun _ _ _ h => h) (Or.inr ⟨by rfl, rfl⟩) (by assumption) ?_
     try simp only [Act.put, List.setIfInBounds_toArray, List.set_cons_zero, List.set_cons_succ]
     refine wpAnyH_take (i := 23) (oi := ⟨some 41, .pick (.tmp 24) (.tmp 40) (.const (.bool false)), 4, "ref.go:38", #[⟨6, .data⟩, ⟨22, .data⟩], none⟩) (v := ?_) rfl (by kernel_rfl) (by kernel_rfl) (by kernel_rfl) (fun _ _ _ h => h) (Or.inl ⟨by rfl, ?_⟩) (by assumption) ?_
     rotate_left
     · intro w hSw; (try dsimp only at hSw); first | (go_simp; done) | (go_simp; with_reducible rfl)
     try simp only [Act.put, List.setIfInBounds_toArray, List.set_cons_zero, List.set_cons_succ]
     refine wpAnyH_take (i := 24) (oi := ⟨some 6, .assign (.tmp 41), 4, "ref.go:38", #[⟨23, .data⟩, ⟨22, .chain⟩, ⟨0, .phase⟩, ⟨1, .phase⟩, ⟨2, .phase⟩, ⟨3, .phase⟩, ⟨4, .phase⟩, ⟨5, .phase⟩, ⟨6, .phase⟩, ⟨7, .phase⟩, ⟨8, .phase⟩, ⟨9, .phase⟩, ⟨10, .phase⟩, ⟨11, .phase⟩, ⟨12, .phase⟩, ⟨13, .phase⟩, ⟨14, .phase⟩, ⟨15, .phase⟩, ⟨16, .phase⟩, ⟨17, .phase⟩, ⟨18, .phase⟩, ⟨19, .phase⟩, ⟨20, .phase⟩, ⟨21, .phase⟩, ⟨22, .phase⟩, ⟨23, .phase⟩], none⟩) (v := ?_) rfl (by kernel_rfl) (by kernel_rfl) (by kernel_rfl) (fun _ _ _ h => h) (Or.inl ⟨by rfl, ?_⟩) (by assumption) ?_
     rotate_left
     · intro w hSw; (try dsimp only at hSw); first | (go_simp; done) | (go_simp; with_reducible rfl)
     try simp only [Act.put, List.setIfInBounds_toArray, List.set_cons_zero, List.set_cons_succ]
     refine wpAnyH_done (by kernel_rfl) ?_ _
     go_wp2_with fail
     go_ret
     exact ⟨by rw [HF.out]; rfl, H2.out.drew⟩
   · have H3 : Hid (l[j]? = some b ∧ b.row = r + 1 ∧ b.col = k) := ⟨hjb, hbr, hbc⟩
     have HF : Hid (alkP N a b = q) := by show alkP N a b = q; rw [← HQ.out]; unfold onP; rw [H1.out.2.1, hb]
     have hjn : j < n := by rw [← HL.out.2.1]; exact (List.getElem?_eq_some_iff.1 hjb).1
     obtain ⟨jI, hJ⟩ : ∃ z : Int, z = (j : Int) := ⟨_, rfl⟩
     have gj0 : 0 ≤ jI := by omega
     have gjN : jI < (n : Int) := by omega
     have hjx : jI.toNat = j := by rw [hJ]; rfl
     rw [← hJ]
     have R2 := HL.out.1.ext H2.out
     obtain ⟨gb, off, lv, rfl, hgb, hT, hce⟩ := R2.at H1.out.1
     obtain ⟨g2, o2, lv2, hgg, _hg2, hT2, hce2⟩ := R2.at H3.out.1
     cases hgg
     obtain ⟨lp, ln, lc, rfl⟩ : ∃ lp ln lc, lv = .slice lp ln lc := by obtain ⟨x, y, hab, _⟩ := hT.form; exact ⟨x, _, y, hab⟩
     obtain ⟨mp, mn, mc, rfl⟩ : ∃ mp mn mc, lv2 = .slice mp mn mc := by obtain ⟨x, y, hab, _⟩ := hT2.form; exact ⟨x, _, y, hab⟩
     have mkS : Hid (∀ V, Ext w2 V → (fun V => V.rangeAt gb (off + i * 21 + 4) [.int .i64 a.x.k, .int .i64 a.x.n, .string (bs a.x.s), .int .i64 a.x.e, .int .i64 a.x.r.1, .int .i64 a.x.r.2.1, .bool a.x.r.2.2.1, .bool a.x.r.2.2.2, .int .i64 a.x.q.1, .int .i64 a.x.q.2.1, .bool a.x.q.2.2.1, .bool a.x.q.2.2.2, .slice lp ln lc] ∧ V.rangeAt gb (off + j * 21 + 4) [.int .i64 b.x.k, .int .i64 b.x.n, .string (bs b.x.s), .int .i64 b.x.e, .int .i64 b.x.r.1, .int .i64 b.x.r.2.1, .bool b.x.r.2.2.1, .bool b.x.r.2.2.2, .int .i64 b.x.q.1, .int .i64 b.x.q.2.1, .bool b.x.q.2.2.1, .bool b.x.q.2.2.2, .slice mp mn mc]) V) := fun V e => by
       have k0 := fun o => (cells_heap (e.block gb hgb) o).1
       refine ⟨fun m u hu => ?_, fun m u hu => ?_⟩
       · rw [k0, show off + i * 21 + 4 + m = off + i * 21 + (4 + m) by omega]
         exact hce (4 + m) u (cC_x hu)
       · rw [k0, show off + j * 21 + 4 + m = off + j * 21 + (4 + m) by omega]
         exact hce2 (4 + m) u (cC_x hu)
     have cA := fun V (e : Ext w2 V) => ralike_any N a.x b.x (HL.out.2.2.2 a (List.mem_of_getElem? H1.out.1)) (HL.out.2.2.2 b (List.mem_of_getElem? H3.out.1)) r k (r + 1) k V lp mp ln lc mn mc ((hT.ext e).mono (fun _ _ _ => trivial)) ((hT2.ext e).mono (fun _ _ _ => trivial))
     have hq2 : sameT N (mpT (mvE (wrap64 (-r)) (wrap64 (-k))) N a.x) (mpT (mvE (wrap64 (-(r + 1))) (wrap64 (-k))) N b.x) = q := by
       have := HF.out
       unfold alkP at this
       rw [H1.out.2.2.1, H1.out.2.2.2.1, H3.out.2.1, H3.out.2.2] at this
       exact this
     rw [hq2] at cA
     clear hjb hb hbr hbc hJ hjn R2 hce hce2 hT hT2 hq2 E1 E2 c2
     go_upto_region 2 with fail
     refine wp_region_held_drew (S := (fun V => V.rangeAt gb (off + i * 21 + 4) [.int .i64 a.x.k, .int .i64 a.x.n, .string (bs a.x.s), .int .i64 a.x.e, .int .i64 a.x.r.1, .int .i64 a.x.r.2.1, .bool a.x.r.2.2.1, .bool a.x.r.2.2.2, .int .i64 a.x.q.1, .int .i64 a.x.q.2.1, .bool a.x.q.2.2.1, .bool a.x.q.2.2.2, .slice lp ln lc] ∧ V.rangeAt gb (off + j * 21 + 4) [.int .i64 b.x.k, .int .i64 b.x.n, .string (bs b.x.s), .int .i64 b.x.e, .int .i64 b.x.r.1, .int .i64 b.x.r.2.1, .bool b.x.r.2.2.1, .bool b.x.r.2.2.2, .int .i64 b.x.q.1, .int .i64 b.x.q.2.1, .bool b.x.q.2.2.1, .bool b.x.q.2.2.2, .slice mp mn mc])) (by kernel_rfl) ?_ (fun hHeld0 => ?_)
     · (refine mkS.out _ ?_; ((with_reducible (repeat (first | assumption | exact Ext.refl _ | apply Ext.drew | apply Ext.alloc))); done))
     refine wpAnyH_take (i := 0) (oi := ⟨some 18, .move (.tmp 7), 3, "ref.go:38", #[], none⟩) (v := ?_) rfl (by kernel_rfl) (by kernel_rfl) (by kernel_rfl) (fun _ _ _ h => h) (Or.inl ⟨by rfl, ?_⟩) (by assumption) ?_
     rotate_left
     · intro w hSw; (try dsimp only at hSw); first | (go_simp; done) | (go_simp; with_reducible rfl)
     try simp only [Act.put, List.setIfInBounds_toArray, List.set_cons_zero, List.set_cons_succ]
     refine wpAnyH_take (i := 1) (oi := ⟨some 19, .binOp .geq 3 (.tmp 18) (.const (.int .i64 0)) 3, 4, "ref.go:38", #[⟨0, .data⟩], none⟩) (v := ?_) rfl (by kernel_rfl) (by kernel_rfl) (by kernel_rfl) (fun _ _ _ h => h) (Or.inl ⟨by rfl, ?_⟩) (by assumption) ?_
     rotate_left
     · intro w hSw; (try dsimp only at hSw); first | (go_simp; done) | (go_simp; with_reducible rfl)
     try simp only [Act.put, List.setIfInBounds_toArray, List.set_cons_zero, List.set_cons_succ]
     refine wpAnyH_take (i := 2) (oi := ⟨some 20, .move (.tmp 19), 4, "ref.go:38", #[⟨1, .data⟩], none⟩) (v := ?_) rfl (by kernel_rfl) (by kernel_rfl) (by kernel_rfl) (fun _ _ _ h => h) (Or.inl ⟨by rfl, ?_⟩) (by assumption) ?_
     rotate_left
     · intro w hSw; (try dsimp only at hSw); first | (go_simp; done) | (go_simp; with_reducible rfl)
     try simp only [Act.put, List.setIfInBounds_toArray, List.set_cons_zero, List.set_cons_succ]
     refine wpAnyH_take (i := 3) (oi := ⟨some 21, .move (.tmp 8), 3, "ref.go:38", #[⟨2, .guard⟩], some (2, true)⟩) (v := ?_) rfl (by kernel_rfl) (by kernel_rfl) (by kernel_rfl) (fun _ _ _ h => h) (Or.inl ⟨by rfl, ?_⟩) (by assumption) ?_
     rotate_left
     · intro w hSw; (try dsimp only at hSw); first | (go_simp; done) | (go_simp; with_reducible rfl)
     try simp only [Act.put, List.setIfInBounds_toArray, List.set_cons_zero, List.set_cons_succ]
     refine wpAnyH_take (i := 4) (oi := ⟨some 22, .binOp .geq 3 (.tmp 21) (.const (.int .i64 0)) 3, 4, "ref.go:38", #[⟨3, .data⟩, ⟨2, .guard⟩], some (2, true)⟩) (v := ?_) rfl (by kernel_rfl) (by kernel_rfl) (by kernel_rfl) (fun _ _ _ h => h) (Or.inl ⟨by rfl, ?_⟩) (by assumption) ?_
     rotate_left
     · intro w hSw; (try dsimp only at hSw); first | (go_simp; done) | (go_simp; with_reducible rfl)
     try simp only [Act.put, List.setIfInBounds_toArray, List.set_cons_zero, List.set_cons_succ]
     refine wpAnyH_take (i := 5) (oi := ⟨some 23, .pick (.tmp 20) (.tmp 22) (.const (.bool false)), 4, "ref.go:38", #[⟨2, .data⟩, ⟨4, .data⟩], none⟩) (v := ?_) rfl (by kernel_rfl) (by kernel_rfl) (by kernel_rfl) (fun _ _ _ h => h) (Or.inl ⟨by rfl, ?_⟩) (by assumption) ?_
     rotate_left
     · intro w hSw; (try dsimp only at hSw); first | (go_simp; done) | (go_simp; with_reducible rfl)
     try simp only [Act.put, List.setIfInBounds_toArray, List.set_cons_zero, List.set_cons_succ]
     refine wpAnyH_take (i := 6) (oi := ⟨some 24, .move (.tmp 23), 4, "ref.go:38", #[⟨5, .data⟩, ⟨2, .chain⟩], none⟩) (v := ?_) rfl (by kernel_rfl) (by kernel_rfl) (by kernel_rfl) (fun _ _ _ h => h) (Or.inl ⟨by rfl, ?_⟩) (by assumption) ?_
     rotate_left
     · intro w hSw; (try dsimp only at hSw); first | (go_simp; done) | (go_simp; with_reducible rfl)
     try simp only [Act.put, List.setIfInBounds_toArray, List.set_cons_zero, List.set_cons_succ]
     refine wpAnyH_take (i := 7) (oi := ⟨some 25, .move (.tmp 0), 22, "ref.go:38", #[⟨6, .guard⟩], some (6, true)⟩) (v := ?_) rfl (by kernel_rfl) (by kernel_rfl) (by kernel_rfl) (fun _ _ _ h => h) (Or.inl ⟨by rfl, ?_⟩) (by assumption) ?_
     rotate_left
     · intro w hSw; (try dsimp only at hSw); first | (go_simp; done) | (go_simp; with_reducible rfl)
     try simp only [Act.put, List.setIfInBounds_toArray, List.set_cons_zero, List.set_cons_succ]
     refine wpAnyH_take (i := 8) (oi := ⟨some 26, .move (.tmp 7), 3, "ref.go:38", #[⟨6, .guard⟩], some (6, true)⟩) (v := ?_) rfl (by kernel_rfl) (by kernel_rfl) (by kernel_rfl) (fun _ _ _ h => h) (Or.inl ⟨by rfl, ?_⟩) (by assumption) ?_
     rotate_left
     · intro w hSw; (try dsimp only at hSw); first | (go_simp; done) | (go_simp; with_reducible rfl)
     try simp only [Act.put, List.setIfInBounds_toArray, List.set_cons_zero, List.set_cons_succ]
     refine wpAnyH_take (i := 9) (oi := ⟨some 27, .indexAddr 22 (.tmp 25) (.tmp 26), 0, "ref.go:38", #[⟨7, .data⟩, ⟨8, .data⟩, ⟨6, .guard⟩], some (6, true)⟩) (v := ?_) rfl (by kernel_rfl) (by kernel_rfl) (by kernel_rfl) (fun _ _ _ h => h) (Or.inl ⟨by rfl, ?_⟩) (by assumption) ?_
     rotate_left
     · intro w hSw; (try dsimp only at hSw); first | (go_simp; done) | (go_simp; with_reducible rfl)
     try simp only [Act.put, List.setIfInBounds_toArray, List.set_cons_zero, List.set_cons_succ]
     refine wpAnyH_take (i := 10) (oi := ⟨some 28, .fieldAddr 33 (.tmp 27) 4, 0, "ref.go:38", #[⟨9, .data⟩, ⟨6, .guard⟩], some (6, true)⟩) (v := ?_) rfl (by kernel_rfl) (by kernel_rfl) (by kernel_rfl) (fun _ _ _ h => h) (Or.inl ⟨by rfl, ?_⟩) (by assumption) ?_
     rotate_left
     · intro w hSw; (try dsimp only at hSw); first | (go_simp; done) | (go_simp; with_reducible rfl)
     try simp only [Act.put, List.setIfInBounds_toArray, List.set_cons_zero, List.set_cons_succ]
     refine wpAnyH_take (i := 11) (oi := ⟨some 29, .load 29 (.tmp 28), 29, "ref.go:38", #[⟨10, .data⟩, ⟨6, .guard⟩], some (6, true)⟩) (v := .agg ([.int .i64 a.x.k, .int .i64 a.x.n, .string (bs a.x.s), .int .i64 a.x.e, .int .i64 a.x.r.1, .int .i64 a.x.r.2.1, .bool a.x.r.2.2.1, .bool a.x.r.2.2.2, .int .i64 a.x.q.1, .int .i64 a.x.q.2.1, .bool a.x.q.2.2.1, .bool a.x.q.2.2.2, .slice lp ln lc]).toArray) rfl (by kernel_rfl) (by kernel_rfl) (by kernel_rfl) (fun _ _ _ h => h) (yieldsIf_load_mid (by rfl) 29 _ rfl gb (off + i * 21 + 4) rfl _ _ (fun _ h => h.1) Try.underlying29 rfl (by kernel_rfl)) (by assumption) ?_
     try simp only [Act.put, List.setIfInBounds_toArray, List.set_cons_zero, List.set_cons_succ]
     refine wpAnyH_take (i := 12) (oi := ⟨some 30, .move (.tmp 1), 3, "ref.go:38", #[⟨6, .guard⟩], some (6, true)⟩) (v := ?_) rfl (by kernel_rfl) (by kernel_rfl) (by kernel_rfl) (fun _ _ _ h => h) (Or.inl ⟨by rfl, ?_⟩) (by assumption) ?_
     rotate_left
     · intro w hSw; (try dsimp only at hSw); first | (go_simp; done) | (go_simp; with_reducible rfl)
     try simp only [Act.put, List.setIfInBounds_toArray, List.set_cons_zero, List.set_cons_succ]
     refine wpAnyH_take (i := 13) (oi := ⟨some 31, .move (.tmp 2), 3, "ref.go:38", #[⟨6, .guard⟩], some (6, true)⟩) (v := ?_) rfl (by kernel_rfl) (by kernel_rfl) (by kernel_rfl) (fun _ _ _ h => h) (Or.inl ⟨by rfl, ?_⟩) (by assumption) ?_
     rotate_left
     · intro w hSw; (try dsimp only at hSw); first | (go_simp; done) | (go_simp; with_reducible rfl)
     try simp only [Act.put, List.setIfInBounds_toArray, List.set_cons_zero, List.set_cons_succ]
     refine wpAnyH_take (i := 14) (oi := ⟨some 32, .move (.tmp 0), 22, "ref.go:38", #[⟨6, .guard⟩], some (6, true)⟩) (v := ?_) rfl (by kernel_rfl) (by kernel_rfl) (by kernel_rfl) (fun _ _ _ h => h) (Or.inl ⟨by rfl, ?_⟩) (by assumption) ?_
     rotate_left
     · intro w hSw; (try dsimp only at hSw); first | (go_simp; done) | (go_simp; with_reducible rfl)
     try simp only [Act.put, List.setIfInBounds_toArray, List.set_cons_zero, List.set_cons_succ]
     refine wpAnyH_take (i := 15) (oi := ⟨some 33, .move (.tmp 8), 3, "ref.go:38", #[⟨6, .guard⟩], some (6, true)⟩) (v := ?_) rfl (by kernel_rfl) (by kernel_rfl) (by kernel_rfl) (fun _ _ _ h => h) (Or.inl ⟨by rfl, ?_⟩) (by assumption) ?_
     rotate_left
     · intro w hSw; (try dsimp only at hSw); first | (go_simp; done) | (go_simp; with_reducible rfl)
     try simp only [Act.put, List.setIfInBounds_toArray, List.set_cons_zero, List.set_cons_succ]
     refine wpAnyH_take (i := 16) (oi := ⟨some 34, .indexAddr 22 (.tmp 32) (.tmp 33), 0, "ref.go:38", #[⟨14, .data⟩, ⟨15, .data⟩, ⟨6, .guard⟩], some (6, true)⟩) (v := ?_) rfl (by kernel_rfl) (by kernel_rfl) (by kernel_rfl) (fun _ _ _ h => h) (Or.inl ⟨by rfl, ?_⟩) (by assumption) ?_
     rotate_left
     · intro w hSw; (try dsimp only at hSw); first | (go_simp; done) | (go_simp; with_reducible rfl)
     try simp only [Act.put, List.setIfInBounds_toArray, List.set_cons_zero, List.set_cons_succ]
     refine wpAnyH_take (i := 17) (oi := ⟨some 35, .fieldAddr 33 (.tmp 34) 4, 0, "ref.go:38", #[⟨16, .data⟩, ⟨6, .guard⟩], some (6, true)⟩) (v := ?_) rfl (by kernel_rfl) (by kernel_rfl) (by kernel_rfl) (fun _ _ _ h => h) (Or.inl ⟨by rfl, ?_⟩) (by assumption) ?_
     rotate_left
     · intro w hSw; (try dsimp only at hSw); first | (go_simp; done) | (go_simp; with_reducible rfl)
     try simp only [Act.put, List.setIfInBounds_toArray, List.set_cons_zero, List.set_cons_succ]
     refine wpAnyH_take (i := 18) (oi := ⟨some 36, .load 29 (.tmp 35), 29, "ref.go:38", #[⟨17, .data⟩, ⟨6, .guard⟩], some (6, true)⟩) (v := .agg ([.int .i64 b.x.k, .int .i64 b.x.n, .string (bs b.x.s), .int .i64 b.x.e, .int .i64 b.x.r.1, .int .i64 b.x.r.2.1, .bool b.x.r.2.2.1, .bool b.x.r.2.2.2, .int .i64 b.x.q.1, .int .i64 b.x.q.2.1, .bool b.x.q.2.2.1, .bool b.x.q.2.2.2, .slice mp mn mc]).toArray) rfl (by kernel_rfl) (by kernel_rfl) (by kernel_rfl) (fun _ _ _ h => h) (yieldsIf_load_mid (by rfl) 29 _ rfl gb (off + j * 21 + 4) rfl _ _ (fun _ h => h.2) Try.underlying29 rfl (by kernel_rfl)) (by assumption) ?_
     try simp only [Act.put, List.setIfInBounds_toArray, List.set_cons_zero, List.set_cons_succ]
     refine wpAnyH_take (i := 19) (oi := ⟨some 37, .move (.tmp 1), 3, "ref.go:38", #[⟨6, .guard⟩], some (6, true)⟩) (v := ?_) rfl (by kernel_rfl) (by kernel_rfl) (by kernel_rfl) (fun _ _ _ h => h) (Or.inl ⟨by rfl, ?_⟩) (by assumption) ?_
     rotate_left
     · intro w hSw; (try dsimp only at hSw); first | (go_simp; done) | (go_simp; with_reducible rfl)
     try simp only [Act.put, List.setIfInBounds_toArray, List.set_cons_zero, List.set_cons_succ]
     refine wpAnyH_take (i := 20) (oi := ⟨some 38, .binOp .add 3 (.tmp 37) (.const (.int .i64 1)) 3, 3, "ref.go:38", #[⟨19, .data⟩, ⟨6, .guard⟩], some (6, true)⟩) (v := ?_) rfl (by kernel_rfl) (by kernel_rfl) (by kernel_rfl) (fun _ _ _ h => h) (Or.inl ⟨by rfl, ?_⟩) (by assumption) ?_
     rotate_left
     · intro w hSw; (try dsimp only at hSw); first | (go_simp; done) | (go_simp; with_reducible rfl)
     try simp only [Act.put, List.setIfInBounds_toArray, List.set_cons_zero, List.set_cons_succ]
     refine wpAnyH_take (i := 21) (oi := ⟨some 39, .move (.tmp 2), 3, "ref.go:38", #[⟨6, .guard⟩], some (6, true)⟩) (v := ?_) rfl (by kernel_rfl) (by kernel_rfl) (by kernel_rfl) (fun _ _ _ h => h) (Or.inl ⟨by rfl, ?_⟩) (by assumption) ?_
     rotate_left
     · intro w hSw; (try dsimp only at hSw); first | (go_simp; done) | (go_simp; with_reducible rfl)
     try simp only [Act.put, List.setIfInBounds_toArray, List.set_cons_zero, List.set_cons_succ]
     refine wpAnyH_ready (rs := [22]) (by kernel_rfl) (by simp) ?_
     refine AllReadyH.cons (o := ⟨some 40, .call { callee := .value (.func 31), args := #[.tmp 29, .tmp 30, .tmp 31, .tmp 36, .tmp 38, .tmp 39], argTypes := #[29, 3, 3, 29, 3, 3] }, 4, "ref.go:38", #[⟨11, .data⟩, ⟨12, .data⟩, ⟨13, .data⟩, ⟨18, .data⟩, ⟨20, .data⟩, ⟨21, .data⟩, ⟨6, .chain⟩, ⟨6, .guard⟩], some (6, true)⟩) rfl (fun K hK => ?_) AllReadyH.nil
     go_simp
     refine (cA _ (by first | exact (Ext.refl _).drew | exact Ext.refl _)).mono ?_; rintro e x3 ⟨rfl, E3⟩; have X3 : Ext w2 x3 := Ext.trans (by first | exact Ext.refl _ | exact (Ext.refl _).drew) E3; clear E3
     try go_wp2_with fail
     refine hK.out _ _ ?_ (fun hHeld1 => ?_)
     · (try dsimp only); (refine mkS.out _ ?_; ((with_reducible (repeat (first | assumption | exact Ext.refl _ | apply Ext.drew | apply Ext.alloc))); done))
     clear hK K hHeld0
     try simp only [Act.put, List.setIfInBounds_toArray, List.set_cons_zero, List.set_cons_succ]
     refine wpAnyH_take (i := 23) (oi := ⟨some 41, .pick (.tmp 24) (.tmp 40) (.const (.bool false)), 4, "ref.go:38", #[⟨6, .data⟩, ⟨22, .data⟩], none⟩) (v := ?_) rfl (by kernel_rfl) (by kernel_rfl) (by kernel_rfl) (fun _ _ _ h => h) (Or.inl ⟨by rfl, ?_⟩) (by assumption) ?_
     rotate_left
     · intro w hSw; (try dsimp only at hSw); first | (go_simp; done) | (go_simp; with_reducible rfl)
     try simp only [Act.put, List.setIfInBounds_toArray, List.set_cons_zero, List.set_cons_succ]
     refine wpAnyH_take (i := 24) (oi := ⟨some 6, .assign (.tmp 41), 4, "ref.go:38", #[⟨23, .data⟩, ⟨22, .chain⟩, ⟨0, .phase⟩, ⟨1, .phase⟩, ⟨2, .phase⟩, ⟨3, .phase⟩, ⟨4, .phase⟩, ⟨5, .phase⟩, ⟨6, .phase⟩, ⟨7, .phase⟩, ⟨8, .phase⟩, ⟨9, .phase⟩, ⟨10, .phase⟩, ⟨11, .phase⟩, ⟨12, .phase⟩, ⟨13, .phase⟩, ⟨14, .phase⟩, ⟨15, .phase⟩, ⟨16, .phase⟩, ⟨17, .phase⟩, ⟨18, .phase⟩, ⟨19, .phase⟩, ⟨20, .phase⟩, ⟨21, .phase⟩, ⟨22, .phase⟩, ⟨23, .phase⟩], none⟩) (v := ?_) rfl (by kernel_rfl) (by kernel_rfl) (by kernel_rfl) (fun _ _ _ h => h) (Or.inl ⟨by rfl, ?_⟩) (by assumption) ?_
     rotate_left
     · intro w hSw; (try dsimp only at hSw); first | (go_simp; done) | (go_simp; with_reducible rfl)
     try simp only [Act.put, List.setIfInBounds_toArray, List.set_cons_zero, List.set_cons_succ]
     refine wpAnyH_done (by kernel_rfl) ?_ _
     go_wp2_with fail
     go_ret
     exact ⟨rfl, H2.out.trans (by first | exact X3 | exact X3.drew)⟩
open Go.RowKit
open Classical in
noncomputable def toP (A : Cl → Cl → Bool) (l : List Cl) (k r : Int) : Int := if h : ∃ t, IsTo (fun i => onP A l i k) r t then Classical.choose h else r
theorem to_eq {A : Cl → Cl → Bool} {l : List Cl} {k r t : Int} (h : IsTo (fun i => onP A l i k) r t) : toP A l k r = t := by
 unfold toP
 have hx : ∃ t, IsTo (fun i => onP A l i k) r t := ⟨t, h⟩
 rw [dif_pos hx]
 exact (Classical.choose_spec hx).uniq h
theorem snd_row {l : List Cl} (h : sndB l = true) : ∀ c ∈ l, 1 ≤ c.row ∧ c.row ≤ 1000 ∧ 1 ≤ c.col ∧ c.col ≤ 52 := fun c hc => by
 obtain ⟨i, hi⟩ := List.mem_iff_getElem?.1 hc
 have := (snd_iff l).1 h i (List.getElem?_eq_some_iff.1 hi).1
 unfold okAt inB at this
 rw [clA_get hi] at this
 simp at this
 omega
theorem on_row {A : Cl → Cl → Bool} {l : List Cl} (h : sndB l = true) {k r : Int} (ho : onP A l r k = true) : 1 ≤ r ∧ r + 1 ≤ 1000 := by
 unfold onP at ho
 split at ho
 · rename_i a b ha hb
   have h1 := snd_row h a (List.mem_of_find?_eq_some ha)
   have h2 := snd_row h b (List.mem_of_find?_eq_some hb)
   have h3 := List.find?_some ha
   have h4 := List.find?_some hb
   simp at h3 h4
   omega
 · cases ho
theorem to_ex {A : Cl → Cl → Bool} {l : List Cl} (h : sndB l = true) (k : Int) : ∀ (n : Nat) (r : Int), 1000 - r ≤ (n : Int) → ∃ t, IsTo (fun i => onP A l i k) r t
 | 0, r, hr => ⟨r, Int.le_refl _, fun i _ _ => by omega, by
   cases ho : onP A l r k with
   | false => exact ho
   | true => have := on_row h ho; omega⟩
 | n + 1, r, hr => by
   cases ho : onP A l r k with
   | false => exact ⟨r, Int.le_refl _, fun i _ _ => by omega, ho⟩
   | true =>
     obtain ⟨t, h1, h2, h3⟩ := to_ex h k n (r + 1) (by omega)
     refine ⟨t, by omega, fun i hi ht => ?_, h3⟩
     by_cases e : i = r
     · rw [e]; exact ho
     · exact h2 i (by omega) ht
theorem to_is {A : Cl → Cl → Bool} {l : List Cl} (h : sndB l = true) (k r : Int) : IsTo (fun i => onP A l i k) r (toP A l k r) := by
 obtain ⟨t, ht⟩ := to_ex (A := A) h k (1000 - r).toNat r (by omega)
 rw [to_eq ht]; exact ht
def begB (A : Cl → Cl → Bool) (l : List Cl) (k : Int) (c : Cl) : Bool := decide (c.col = k) && c.is && !onP A l (c.row - 1) k
noncomputable def refK (A : Cl → Cl → Bool) (l : List Cl) (k : Int) (m : List Cl) : List Rn := (((m.filter (begB A l k)).map (fun c => (k, c.row, toP A l k c.row))) : List Rn).filter okRn
noncomputable def refP (A : Cl → Cl → Bool) (l : List Cl) (n : Nat) : List Rn := (List.range n).flatMap (fun (i : Nat) => refK A l ((i : Int) + 1) l)
theorem refP_succ (A : Cl → Cl → Bool) (l : List Cl) (n : Nat) : refP A l (n + 1) = refP A l n ++ refK A l ((n : Int) + 1) l := by
 unfold refP
 rw [List.range_succ, List.flatMap_append]
 simp
theorem refK_snoc (A : Cl → Cl → Bool) (l : List Cl) (k : Int) {i : Nat} {c : Cl} (h : l[i]? = some c) : refK A l k (l.take (i + 1)) = refK A l k (l.take i) ++ (if begB A l k c && okRn (k, c.row, toP A l k c.row) then [(k, c.row, toP A l k c.row)] else []) := by
 unfold refK
 rw [List.take_add_one, h, Option.toList_some, List.filter_append, List.map_append, List.filter_append]
 congr 1
 cases hb : begB A l k c with
 | false => simp [hb]
 | true =>
   cases ho : okRn (k, c.row, toP A l k c.row) with
   | false => simp [hb, ho]
   | true => simp [hb, ho]
theorem refK_len (A : Cl → Cl → Bool) (l : List Cl) (k : Int) (m : List Cl) : (refK A l k m).length ≤ m.length := by
 unfold refK
 refine Nat.le_trans (List.length_filter_le _ _) ?_
 rw [List.length_map]
 exact List.length_filter_le _ _
theorem refP_len (A : Cl → Cl → Bool) (l : List Cl) (n : Nat) : (refP A l n).length ≤ l.length * n := by
 induction n with
 | zero => simp [refP]
 | succ n ih =>
   rw [refP_succ, List.length_append, Nat.mul_succ]
   have := refK_len A l ((n : Int) + 1) l
   omega
theorem find_ref (A : Cl → Cl → Bool) (l : List Cl) : findP A l = if sndB l then refP A l 52 else [] := by
 unfold findP
 cases h : sndB l with
 | false => rfl
 | true =>
   simp only [if_true]
   have key : ∀ n, (rnK (foP A l) n).filter okRn = refP A l n := by
     intro n
     induction n with
     | zero => rfl
     | succ n ih =>
       rw [rnK_succ, List.filter_append, ih, refP_succ]
       congr 1
       rw [col_runs A h ((n : Int) + 1) (fun r => toP A l ((n : Int) + 1) r) (fun c _ _ => to_is h _ _)]
       unfold refK
       congr 2
       unfold clsP
       rw [List.filter_filter]
       refine List.filter_congr (fun c _ => ?_)
       unfold begB
       cases c.is <;> cases decide (c.col = (n : Int) + 1) <;> simp
   exact key 52
open Go.RowKit
set_option maxHeartbeats 4000000
theorem rd_runs {W : World} {base n : Nat} {v : Value} {l : List Rn} (h : W.ownsRow base 45 3 v n (l.flatMap cRn)) (hn : n = l.length) : RdRn W v l := own_rdG cRn_len h hn
theorem rd_run1 {W V : World} {x : Rn} (e : Ext (W.alloc (.cells #[.int .i64 x.1, .int .i64 x.2.1, .int .i64 x.2.2] 45)) V) : RdG cRn 3 V (.slice (some ⟨W.heap.size, 0, none⟩) 1 1) [x] :=
 RdG.one e.top (fun j u h => by simpa [cRn] using h)
set_option maxRecDepth 100000 in
theorem rfind_any (N B : Nat) (l : List Cl) (W : World) (v : Value) (h : RdC B W v l) (hl : l.length ≤ 2000) (hh : ∀ c ∈ l, Hr N c.x) : Calls Try.prog 8 #[v] W fun e w' => ∃ v', e = .returned v' ∧ RdRn w' v' (findP (alkP N) l) ∧ Ext W w' := by
 have cS := fun V (e : Ext W V) => rsound_any B l V v (h.ext e) (by omega)
 have cO := fun V (e : Ext W V) r k hr => ron_any N B l r k hr V v (h.ext e) (by omega) hh
 obtain ⟨p, cp, rfl, _hcp⟩ := h.form
 obtain ⟨n, hn⟩ : ∃ n, l.length = n := ⟨_, rfl⟩
 have HL : Hid (RdC B W (.slice p n cp) l ∧ l.length = n ∧ n ≤ 2000) := ⟨by rw [← hn]; exact h, hn, by omega⟩
 obtain ⟨b, hb⟩ : ∃ b, sndB l = b := ⟨_, rfl⟩
 rw [hn, hb] at cS
 rw [hn] at cO
 rw [hn]
 have HB : Hid (sndB l = b) := hb
 have HO : Hid (∀ V, Ext W V → ∀ (r k : Int), -1000000 ≤ r ∧ r ≤ 1000000 → Calls Try.prog 17 #[.slice p n cp, .int .i64 r, .int .i64 k] V fun e w' => e = .returned (.bool (onP (alkP N) l r k)) ∧ Ext V w') := fun V e r k hr => cO V e r k hr
 clear h _hcp hn hl hh hb cO
 go_enter Try.func8, Try.ntmps8
 go_wp2_with fail
 refine (cS _ ((Ext.refl _).alloc _)).mono ?_
 rintro e w1 ⟨rfl, E1⟩
 have HE1 : Hid (Ext W w1 ∧ w1.ownsRow W.heap.size 45 3 (.slice (some ⟨W.heap.size, 0, none⟩) 0 0) 0 []) := ⟨((Ext.refl _).alloc _).trans E1, ownsRow_ext (own_new W W (Nat.le_refl _)) E1⟩
 clear cS E1
 cases b with
 | false =>
   go_wp2_with fail
   go_ret
   refine ⟨_, rfl, ?_, HE1.out.1⟩
   unfold findP
   rw [HB.out]
   exact rd_runs (l := []) HE1.out.2 rfl
 | true =>
   obtain ⟨A, hA⟩ : ∃ A, alkP N = A := ⟨_, rfl⟩
   have HF : Hid (findP (alkP N) l = refP A l 52) := by show findP (alkP N) l = _; rw [find_ref, HB.out, hA]; rfl
   rw [hA] at HO
   clear hA
   go_wp2_with fail
   go_loopw [3, 4] (fun x y wr => ∃ k : Nat, y = .int .i64 ((k : Int) + 1) ∧ k ≤ 52 ∧ Ext W wr ∧ wr.ownsRow W.heap.size 45 3 x (refP A l k).length ((refP A l k).flatMap cRn)) (fun _ y _ => 53 - (intOf y).toNat)
   case atStart => exact ⟨0, rfl, Nat.zero_le _, HE1.out.1, HE1.out.2⟩
   case round =>
     obtain ⟨k, rfl, hk, hE, hO⟩ := hrel
     obtain ⟨xp, xc, rfl, _hxc⟩ := own_form hO
     obtain ⟨m, hm⟩ : ∃ m, (refP A l k).length = m := ⟨_, rfl⟩
     rw [hm] at hO
     rw [hm]
     have HQ : Hid (Ext W wr ∧ wr.ownsRow W.heap.size 45 3 (.slice xp m xc) m ((refP A l k).flatMap cRn) ∧ k ≤ 52 ∧ (refP A l k).length = m) := ⟨hE, hO, hk, hm⟩
     clear hE hO hm _hxc
     rcases Nat.lt_or_ge k 52 with hlt | hge
     · obtain ⟨kI, hkI⟩ : ∃ z : Int, (k : Int) + 1 = z := ⟨_, rfl⟩
       have HK : Hid (kI = (k : Int) + 1 ∧ k < 52) := ⟨hkI.symm, hlt⟩
       have hltI : kI ≤ 52 := by omega
       have wk : IntKind.i64.wrap (kI + 1) = kI + 1 := iwrap (by omega) (by omega)
       have wk2 : wrap64 (kI + 1) = kI + 1 := iwrap64 (by omega) (by omega)
       rw [hkI]
       clear hkI hk hlt
       go_wp2_with fail
       go_loopw [3, 5] (fun x y wr => ∃ (i : Nat), y = .int .i64 (i : Int) ∧ i ≤ n ∧ Ext W wr ∧ wr.ownsRow W.heap.size 45 3 x (refP A l k ++ refK A l kI (l.take i)).length ((refP A l k ++ refK A l kI (l.take i)).flatMap cRn)) (fun _ y _ => n - (intOf y).toNat)
       case atStart => exact ⟨0, rfl, Nat.zero_le _, HQ.out.1, by rw [show refK A l kI (l.take 0) = [] from rfl, List.append_nil, HQ.out.2.2.2]; exact HQ.out.2.1⟩
       case round =>
         obtain ⟨i, rfl, hi, hE, hO⟩ := hrel
         obtain ⟨yp, yc, rfl, _hyc⟩ := own_form hO
         obtain ⟨m2, hm2⟩ : ∃ m, (refP A l k ++ refK A l kI (l.take i)).length = m := ⟨_, rfl⟩
         rw [hm2] at hO
         rw [hm2]
         have HI : Hid (Ext W wr ∧ wr.ownsRow W.heap.size 45 3 (.slice yp m2 yc) m2 ((refP A l k ++ refK A l kI (l.take i)).flatMap cRn) ∧ i ≤ n ∧ (refP A l k ++ refK A l kI (l.take i)).length = m2 ∧ m2 ≤ 200000) := ⟨hE, hO, hi, hm2, by
           have h1 := refP_len A l k
           have h2 := refK_len A l kI (l.take i)
           rw [List.length_append] at hm2
           have h3 := HL.out.2
           have h4 : l.length * k ≤ 2000 * 52 := Nat.mul_le_mul (by omega) (by have := HK.out; omega)
           rw [List.length_take] at h2
           omega⟩
         have wi : wrap64 ((i : Int) + 1) = ((i + 1 : Nat) : Int) := wrapNr i (by have := HL.out; omega)
         clear hE hO hm2 _hyc
         rcases Nat.lt_or_ge i n with hlt | hge
         · have hltN : (i : Int) < (n : Int) := by omega
           obtain ⟨x, hx⟩ : ∃ x, l[i]? = some x := ⟨_, List.getElem?_eq_getElem (by rw [HL.out.2.1]; exact hlt)⟩
           obtain ⟨gb, off, lv, rfl, hgb, hT, hce⟩ := (HL.out.1.ext HI.out.1).at hx
           obtain ⟨lp, ln, lc, rfl⟩ : ∃ lp ln lc, lv = .slice lp ln lc := by obtain ⟨a, b, hab, _⟩ := hT.form; exact ⟨a, _, b, hab⟩
           have HR : Hid (wr.rangeAt gb (off + i * 21) [.int .i64 x.row, .int .i64 x.col, .string x.txt, .bool x.is, .int .i64 x.x.k, .int .i64 x.x.n, .string (bs x.x.s), .int .i64 x.x.e, .int .i64 x.x.r.1, .int .i64 x.x.r.2.1, .bool x.x.r.2.2.1, .bool x.x.r.2.2.2, .int .i64 x.x.q.1, .int .i64 x.x.q.2.1, .bool x.x.q.2.2.1, .bool x.x.q.2.2.2, .slice lp ln lc, .int .i64 x.vk, .int .i64 x.vn, .string x.vs, .int .i64 x.ve]) := hce
           have hrow := snd_row HB.out x (List.mem_of_getElem? hx)
           have HX : Hid (refK A l kI (l.take (i + 1)) = refK A l kI (l.take i) ++ (if begB A l kI x && okRn (kI, x.row, toP A l kI x.row) then [(kI, x.row, toP A l kI x.row)] else []) ∧ i < n ∧ 1 ≤ x.row ∧ x.row ≤ 1000) := ⟨refK_snoc A l kI hx, hlt, hrow.1, hrow.2.1⟩
           have w1 : IntKind.i64.wrap (x.row - 1) = x.row - 1 := iwrap (by omega) (by omega)
           have cO1 := fun V (e : Ext W V) => HO.out V e (x.row - 1) kI (by omega)
           obtain ⟨b1, hb1⟩ : ∃ b, onP A l (x.row - 1) kI = b := ⟨_, rfl⟩
           rw [hb1] at cO1
           obtain ⟨bi, hbi⟩ : ∃ b, x.is = b := ⟨_, rfl⟩
           have HB1 : Hid (onP A l (x.row - 1) kI = b1 ∧ x.is = bi) := ⟨hb1, hbi⟩
           have HR2 : Hid (wr.rangeAt gb (off + i * 21) [.int .i64 x.row, .int .i64 x.col, .string x.txt, .bool bi, .int .i64 x.x.k, .int .i64 x.x.n, .string (bs x.x.s), .int .i64 x.x.e, .int .i64 x.x.r.1, .int .i64 x.x.r.2.1, .bool x.x.r.2.2.1, .bool x.x.r.2.2.2, .int .i64 x.x.q.1, .int .i64 x.x.q.2.1, .bool x.x.q.2.2.1, .bool x.x.q.2.2.2, .slice lp ln lc, .int .i64 x.vk, .int .i64 x.vn, .string x.vs, .int .i64 x.ve]) := by rw [← hbi]; exact HR.out
           have RT : Hid (∀ V, Ext (wr.alloc (.cells #[.int .i64 x.row, .int .i64 x.col, .string x.txt, .bool bi, .int .i64 x.x.k, .int .i64 x.x.n, .string (bs x.x.s), .int .i64 x.x.e, .int .i64 x.x.r.1, .int .i64 x.x.r.2.1, .bool x.x.r.2.2.1, .bool x.x.r.2.2.2, .int .i64 x.x.q.1, .int .i64 x.x.q.2.1, .bool x.x.q.2.2.1, .bool x.x.q.2.2.2, .slice lp ln lc, .int .i64 x.vk, .int .i64 x.vn, .string x.vs, .int .i64 x.ve] 33)) V → V.rangeAt wr.heap.size 0 [.int .i64 x.row, .int .i64 x.col, .string x.txt, .bool bi, .int .i64 x.x.k, .int .i64 x.x.n, .string (bs x.x.s), .int .i64 x.x.e, .int .i64 x.x.r.1, .int .i64 x.x.r.2.1, .bool x.x.r.2.2.1, .bool x.x.r.2.2.2, .int .i64 x.x.q.1, .int .i64 x.x.q.2.1, .bool x.x.q.2.2.1, .bool x.x.q.2.2.2, .slice lp ln lc, .int .i64 x.vk, .int .i64 x.vn, .string x.vs, .int .i64 x.ve]) := fun V e => rng_top e
           clear hx hT hce hrow hb1 hbi hgb HR hlt hi
           have NOX : Hid (begB A l kI x = false → refK A l kI (l.take (i + 1)) = refK A l kI (l.take i)) := fun h => by rw [HX.out.1, h]; simp
           have hend : ∀ (z : World), Ext W z → wr.heap.size ≤ z.heap.size → True := fun _ _ _ => trivial
           clear hend
           by_cases hc : x.col = kI
           · have d1 : (x.col != kI) = false := by simp [hc]
             have HC : Hid (x.col = kI) := hc
             clear hc
             cases bi with
             | false =>
               have HN : Hid (begB A l kI x = false) := by show _ = _; unfold begB; rw [HB1.out.2]; simp
               go_wp2_with (first | (refine wpList_load_mid rfl 33 _ rfl gb (off + i * 21) rfl _ _ HR2.out Try.underlying33 rfl (by kernel_rfl) ?_) | (refine wpList_storeN _ rfl _ _ 33 rfl _ _ rfl rfl (by kernel_rfl) (by rfl) (by simp [Value.oneCell']) ?_))
               go_roundw
               case rel => exact ⟨i + 1, by rw [wi], HX.out.2.1, HI.out.1.alloc _, by rw [NOX.out HN.out, HI.out.2.2.2.1]; exact ownsRow_ext HI.out.2.1 ((Ext.refl _).alloc _)⟩
               case measure => rw [wi]; have := HX.out.2.1; simp [intOf]; omega
             | true =>
               cases b1 with
               | true =>
                 have HN : Hid (begB A l kI x = false) := by show _ = _; unfold begB; rw [HB1.out.1]; simp
                 go_wp2_with (first | (refine wpList_load_mid rfl 33 _ rfl gb (off + i * 21) rfl _ _ HR2.out Try.underlying33 rfl (by kernel_rfl) ?_) | (refine wpList_storeN _ rfl _ _ 33 rfl _ _ rfl rfl (by kernel_rfl) (by rfl) (by simp [Value.oneCell']) ?_))
                 refine (cO1 _ (HI.out.1.alloc _)).mono ?_
                 rintro e w2 ⟨rfl, E2⟩
                 have H2 : Hid (Ext wr w2) := ((Ext.refl _).alloc _).trans E2
                 clear cO1 E2
                 go_wp2_with fail
                 go_roundw
                 case rel => exact ⟨i + 1, by rw [wi], HX.out.2.1, HI.out.1.trans H2.out, by rw [NOX.out HN.out, HI.out.2.2.2.1]; exact ownsRow_ext HI.out.2.1 H2.out⟩
                 case measure => rw [wi]; have := HX.out.2.1; simp [intOf]; omega
               | false =>
                 have HN : Hid (begB A l kI x = true) := by show _ = _; unfold begB; rw [HB1.out.1, HB1.out.2, HC.out]; simp
                 go_wp2_with (first | (refine wpList_load_mid rfl 33 _ rfl gb (off + i * 21) rfl _ _ HR2.out Try.underlying33 rfl (by kernel_rfl) ?_) | (refine wpList_storeN _ rfl _ _ 33 rfl _ _ rfl rfl (by kernel_rfl) (by rfl) (by simp [Value.oneCell']) ?_))
                 refine (cO1 _ (HI.out.1.alloc _)).mono ?_
                 rintro e w2 ⟨rfl, E2⟩
                 have H2 : Hid (Ext wr w2 ∧ w2.rangeAt wr.heap.size 0 [.int .i64 x.row, .int .i64 x.col, .string x.txt, .bool true, .int .i64 x.x.k, .int .i64 x.x.n, .string (bs x.x.s), .int .i64 x.x.e, .int .i64 x.x.r.1, .int .i64 x.x.r.2.1, .bool x.x.r.2.2.1, .bool x.x.r.2.2.2, .int .i64 x.x.q.1, .int .i64 x.x.q.2.1, .bool x.x.q.2.2.1, .bool x.x.q.2.2.2, .slice lp ln lc, .int .i64 x.vk, .int .i64 x.vn, .string x.vs, .int .i64 x.ve] ∧ wr.heap.size < w2.heap.size) := ⟨((Ext.refl _).alloc _).trans E2, RT.out _ E2, Nat.lt_of_lt_of_le (by simp) E2.size⟩
                 have e0 : w2.cell? ⟨wr.heap.size, 0, none⟩ = some (.int .i64 x.row) := by have := H2.out.2.1 0 _ rfl; simpa using this
                 clear cO1 E2 RT HR2
                 have HOW := HO.out
                 go_wp2_with fail
                 go_loopw [7] (fun tv wq => ∃ t : Int, tv = .int .i64 t ∧ x.row ≤ t ∧ t ≤ 1001 ∧ (∀ z, x.row ≤ z → z < t → onP A l z kI = true) ∧ Ext w2 wq) (fun tv _ => (1002 - intOf tv).toNat)
                 case atStart => exact ⟨x.row, rfl, Int.le_refl _, by have := HX.out; omega, fun z h1 h2 => by omega, Ext.refl _⟩
                 case round =>
                   obtain ⟨t, rfl, ht1, ht2, ht3, hE⟩ := hrel
                   have HT : Hid (x.row ≤ t ∧ t ≤ 1001 ∧ (∀ z, x.row ≤ z → z < t → onP A l z kI = true) ∧ Ext w2 wr) := ⟨ht1, ht2, ht3, hE⟩
                   have wt : IntKind.i64.wrap (t + 1) = t + 1 := iwrap (by have := HX.out; omega) (by omega)
                   have wt2 : wrap64 (t + 1) = t + 1 := iwrap64 (by have := HX.out; omega) (by omega)
                   have ws : IntKind.i64.wrap (t - x.row) = t - x.row := iwrap (by have := HX.out; omega) (by have := HX.out; omega)
                   have cO2 := HO.out wr ((HI.out.1.trans H2.out.1).trans hE) t kI (by have := HX.out; omega)
                   obtain ⟨b2, hb2⟩ : ∃ b, onP A l t kI = b := ⟨_, rfl⟩
                   rw [hb2] at cO2
                   have HB2 : Hid (onP A l t kI = b2) := hb2
                   clear ht1 ht2 ht3 hE hb2
                   go_wp2_with fail
                   refine cO2.mono ?_
                   rintro e w4 ⟨rfl, E4⟩
                   have H4 : Hid (Ext w2 w4) := HT.out.2.2.2.trans E4
                   clear cO2 E4
                   cases b2 with
                   | true =>
                     have HL2 : Hid (t + 1 ≤ 1000) := (on_row HB.out HB2.out).2
                     go_wp2_with fail
                     go_roundw
                     case rel => exact ⟨t + 1, rfl, by have := HT.out.1; omega, by have := HL2.out; omega, fun z h1 h2 => by
                       by_cases e : z = t
                       · rw [e]; exact HB2.out
                       · exact HT.out.2.2.1 z h1 (by omega), H4.out⟩
                     case measure =>
                       have := HL2.out
                       show (1002 - (t + 1)).toNat < (1002 - t).toNat
                       omega
                   | false =>
                     have HTO : Hid (toP A l kI x.row = t ∧ Ext W w4 ∧ Ext _ w4) := ⟨to_eq ⟨HT.out.1, HT.out.2.2.1, HB2.out⟩, (HI.out.1.trans H2.out.1).trans H4.out, H2.out.1.trans H4.out⟩
                     have e4 := ((cells_heap (H4.out.block _ H2.out.2.2) 0).1).trans e0
                     clear e0 HOW wt wt2 w1
                     by_cases h3 : 3 ≤ t - x.row
                     · have HK3 : Hid (refK A l kI (l.take (i + 1)) = refK A l kI (l.take i) ++ [(kI, x.row, t)]) := by
                         show _ = _
                         rw [HX.out.1, HN.out, HTO.out.1]
                         have : okRn (kI, x.row, t) = true := by unfold okRn; simp; omega
                         rw [this]; rfl
                       have d3 : decide (3 ≤ t - x.row) = true := decide_eq_true h3
                       clear d3
                       go_wp2_with (at_builtin; refine app_g eltRn cRn_len cRn_one (by decide) _ W _ _ _ _ m2 1 (refP A l k ++ refK A l kI (l.take i)) [(kI, x.row, t)] W.heap.size rfl rfl (by rfl) (by rfl) (ownsRow_ext HI.out.2.1 (HTO.out.2.2.alloc _)) rfl (rd_run1 (x := (kI, x.row, t)) (Ext.refl _)) (by have := HI.out.2.2.2.2; omega) (HTO.out.2.1.alloc _) (Nat.le_refl _) (HTO.out.2.1.alloc _).size ?_; intro v9 w9 O9 E9 G9 N9; have H9 : Hid (Ext W w9 ∧ w9.ownsRow W.heap.size 45 3 v9 (refP A l k ++ refK A l kI (l.take (i + 1))).length ((refP A l k ++ refK A l kI (l.take (i + 1))).flatMap cRn)) := ⟨E9, by rw [HK3.out, ← List.append_assoc, List.length_append, HI.out.2.2.2.1]; exact O9⟩; clear O9 E9 G9 N9)
                       go_roundw
                       case rel => exact ⟨i + 1, by rw [wi], HX.out.2.1, H9.out⟩
                       case measure => rw [wi]; have := HX.out.2.1; simp [intOf]; omega
                     · have HK3 : Hid (refK A l kI (l.take (i + 1)) = refK A l kI (l.take i)) := by
                         show _ = _
                         rw [HX.out.1, HN.out, HTO.out.1]
                         have : okRn (kI, x.row, t) = false := by unfold okRn; simp; omega
                         rw [this]; simp
                       have h4 : t - x.row < 3 := by omega
                       clear h3
                       go_wp2_with fail
                       go_roundw
                       case rel => exact ⟨i + 1, by rw [wi], HX.out.2.1, HTO.out.2.1, by rw [HK3.out, HI.out.2.2.2.1]; exact ownsRow_ext HI.out.2.1 HTO.out.2.2⟩
                       case measure => rw [wi]; have := HX.out.2.1; simp [intOf]; omega
           · have d1 : (x.col != kI) = true := by simp [hc]
             have HN : Hid (begB A l kI x = false) := by show _ = _; unfold begB; simp [hc]
             clear hc
             go_wp2_with (first | (refine wpList_load_mid rfl 33 _ rfl gb (off + i * 21) rfl _ _ HR2.out Try.underlying33 rfl (by kernel_rfl) ?_) | (refine wpList_storeN _ rfl _ _ 33 rfl _ _ rfl rfl (by kernel_rfl) (by rfl) (by simp [Value.oneCell']) ?_))
             go_roundw
             case rel => exact ⟨i + 1, by rw [wi], HX.out.2.1, HI.out.1.alloc _, by rw [NOX.out HN.out, HI.out.2.2.2.1]; exact ownsRow_ext HI.out.2.1 ((Ext.refl _).alloc _)⟩
             case measure => rw [wi]; have := HX.out.2.1; simp [intOf]; omega
         · have hin : i = n := by omega
           have hltN : (n : Int) ≤ (i : Int) := by omega
           have HT : Hid (refP A l (k + 1) = refP A l k ++ refK A l kI (l.take i)) := by
             show _ = _
             rw [refP_succ, HK.out.1, List.take_of_length_le (by rw [HL.out.2.1]; omega)]
           clear hin hge hi
           go_wp2_with fail
           go_roundw
           case rel => exact ⟨k + 1, by rw [HK.out.1]; rfl, HK.out.2, HI.out.1, by rw [HT.out, HI.out.2.2.2.1]; exact HI.out.2.1⟩
           case measure =>
             have := HK.out
             show 53 - (kI + 1).toNat < 53 - kI.toNat
             omega
     · have hk52 : k = 52 := by omega
       have hltI : (52 : Int) < (k : Int) + 1 := by omega
       have HQ2 : Hid (RdRn wr (.slice xp m xc) (findP (alkP N) l)) := by
         show RdRn _ _ _
         rw [HF.out]
         have h1 := HQ.out.2.1
         have h2 := HQ.out.2.2.2
         rw [hk52] at h1 h2
         exact rd_runs h1 h2.symm
       clear hk52 hk hge
       go_wp2_with fail
       go_ret
       exact ⟨_, rfl, HQ2.out, HQ.out.1⟩
end Go.Proofs.Ytjhmbkdkjgjoaaa
