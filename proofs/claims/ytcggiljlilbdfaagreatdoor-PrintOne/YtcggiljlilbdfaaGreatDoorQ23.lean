/-
 The printer writes trees: tree itself: all kinds.
-/
import Derived.Test.YtcggiljlilbdfaaGreatDoorQ15
import Derived.Test.YtcggiljlilbdfaaGreatDoorQ16
import Derived.Test.YtcggiljlilbdfaaGreatDoorQ22
namespace Go.Proofs.YtcggiljlilbdfaaGreatDoor
open Go.RowKit
set_option maxHeartbeats 6000000

/-- A tree in a list, wherever what it lies in is kept. -/
theorem elem_at {w0 : World} {P : Nat → Prop} {pp : Option Addr} {ln cl i : Nat} {ls : List T} {x : T} (hL : IsL w0 P (.slice pp ln cl) ls) (hi : ls[i]? = some x) :
   ∃ gb off qq lm cm, pp = some ⟨gb, off, none⟩ ∧ ln = ls.length ∧ IsL w0 P (.slice qq lm cm) x.l ∧ ∀ V, Ext w0 V → V.cell? ⟨gb, off + i * 13, none⟩ = some (.int .i64 x.k) ∧ V.cell? ⟨gb, off + i * 13 + 1, none⟩ = some (.int .i64 x.n) ∧ V.cell? ⟨gb, off + i * 13 + 2, none⟩ = some (.string (bs x.s)) ∧ V.cell? ⟨gb, off + i * 13 + 3, none⟩ = some (.int .i64 x.e) ∧ V.cell? ⟨gb, off + i * 13 + 4, none⟩ = some (.int .i64 x.r.1) ∧ V.cell? ⟨gb, off + i * 13 + 5, none⟩ = some (.int .i64 x.r.2.1) ∧ V.cell? ⟨gb, off + i * 13 + 6, none⟩ = some (.bool x.r.2.2.1) ∧ V.cell? ⟨gb, off + i * 13 + 7, none⟩ = some (.bool x.r.2.2.2) ∧ V.cell? ⟨gb, off + i * 13 + 8, none⟩ = some (.int .i64 x.q.1) ∧ V.cell? ⟨gb, off + i * 13 + 9, none⟩ = some (.int .i64 x.q.2.1) ∧ V.cell? ⟨gb, off + i * 13 + 10, none⟩ = some (.bool x.q.2.2.1) ∧ V.cell? ⟨gb, off + i * 13 + 11, none⟩ = some (.bool x.q.2.2.2) ∧ V.cell? ⟨gb, off + i * 13 + 12, none⟩ = some (.slice qq lm cm) := by
 obtain ⟨gb, off, x', lv, hpp, hx1, hA1, hgb, hA2, hLx, hce⟩ := hL.at (i := i) (List.getElem?_eq_some_iff.1 hi).1
 rw [hi] at hx1
 cases hx1
 obtain ⟨qq, cm, hlv, hcl⟩ := hLx.form
 subst hlv
 refine ⟨gb, off, qq, _, cm, hpp, hA1, hLx, fun V e => ?_⟩
 have k := fun o => e.cell.1 gb o hgb
 exact ⟨(k _).trans (hce 0 _ rfl), (k _).trans (hce 1 _ rfl), (k _).trans (hce 2 _ rfl), (k _).trans (hce 3 _ rfl), (k _).trans (hce 4 _ rfl), (k _).trans (hce 5 _ rfl), (k _).trans (hce 6 _ rfl), (k _).trans (hce 7 _ rfl), (k _).trans (hce 8 _ rfl), (k _).trans (hce 9 _ rfl), (k _).trans (hce 10 _ rfl), (k _).trans (hce 11 _ rfl), (k _).trans (hce 12 _ rfl)⟩
set_option maxRecDepth 100000 in
theorem tree_neg (n : Nat) (t : T) (hk : t.k = 6) (_hW : Wf t) (x : T) (hl : t.l = [x]) (hx : PPt n 4 x) : PTr (n + 1) t := by
 intro w0 W b l pp ln cl hTab hBu hL hlen
 have e0 : (t.k == 0) = false := by rw [hk]; rfl
 have e1 : (t.k == 1) = false := by rw [hk]; rfl
 have e2 : (t.k == 2) = false := by rw [hk]; rfl
 have e3 : (t.k == 3) = false := by rw [hk]; rfl
 have e4 : (t.k == 4) = false := by rw [hk]; rfl
 have e5 : (t.k == 5) = false := by rw [hk]; rfl
 have e6 : (t.k == 6) = true := by rw [hk]; rfl
 have HX : Hid (shT (n + 1) t = 45 :: brkL (loose 5 x) (shT n x)) := by show _ = _; rw [shT]; simp [hk, hl, hdT]
 have hz : szT (n + 1) t = 1 + szT n x := by rw [szT, hl]; simp
 rw [hz] at hlen
 obtain ⟨gb, off, qq, lm, cm, hpp, hln, hLx, hce⟩ := elem_at hL (show t.l[0]? = some x by rw [hl]; rfl)
 rw [hl] at hln
 simp only [Nat.zero_mul, Nat.add_zero] at hce
 replace hln : ln = 1 := hln
 subst hpp hln
 have HB : Hid (Bu w0 b l W) := hBu
 have hbW : b < W.heap.size := by rcases hBu.2 with h | h <;> exact h.lt
 have HP : Hid (∀ V l', Bu w0 b l' V → l'.length + 701 * szT n x + 3 ≤ 90000000 → Calls Tryz.prog 42 #[.pointer (some ⟨b, 0, none⟩), .agg #[.int .i64 x.k, .int .i64 x.n, .string (bs x.s), .int .i64 x.e, .int .i64 x.r.1, .int .i64 x.r.2.1, .bool x.r.2.2.1, .bool x.r.2.2.2, .int .i64 x.q.1, .int .i64 x.q.2.1, .bool x.q.2.2.1, .bool x.q.2.2.2, .slice qq lm cm], .int .i64 ((4 : Nat) : Int)] V (PrQ w0 b V (l' ++ brkL (loose (4 + 1) x) (shT n x)))) := fun V l' h h2 => hx w0 V b l' qq lm cm hTab h hLx h2
 rw [show ((4 : Nat) : Int) = 4 from rfl] at HP
 have HC : Hid (∀ V, Ext w0 V → V.cell? ⟨gb, off, none⟩ = some (.int .i64 x.k) ∧ V.cell? ⟨gb, off + 1, none⟩ = some (.int .i64 x.n) ∧ V.cell? ⟨gb, off + 2, none⟩ = some (.string (bs x.s)) ∧ V.cell? ⟨gb, off + 3, none⟩ = some (.int .i64 x.e) ∧ V.cell? ⟨gb, off + 4, none⟩ = some (.int .i64 x.r.1) ∧ V.cell? ⟨gb, off + 5, none⟩ = some (.int .i64 x.r.2.1) ∧ V.cell? ⟨gb, off + 6, none⟩ = some (.bool x.r.2.2.1) ∧ V.cell? ⟨gb, off + 7, none⟩ = some (.bool x.r.2.2.2) ∧ V.cell? ⟨gb, off + 8, none⟩ = some (.int .i64 x.q.1) ∧ V.cell? ⟨gb, off + 9, none⟩ = some (.int .i64 x.q.2.1) ∧ V.cell? ⟨gb, off + 10, none⟩ = some (.bool x.q.2.2.1) ∧ V.cell? ⟨gb, off + 11, none⟩ = some (.bool x.q.2.2.2) ∧ V.cell? ⟨gb, off + 12, none⟩ = some (.slice qq lm cm)) := hce
 have HN : Hid (l.length + 701 * (1 + szT n x) ≤ 90000000) := hlen
 clear hTab hBu hL hlen _hW hk hx hl hz hce hLx
 go_enter Tryz.func18, Tryz.ntmps18
 go_wp2_with fail
 have HNT : Hid ((W.alloc (.cells #[.int .i64 t.k, .int .i64 t.n, .string (bs t.s), .int .i64 t.e, .int .i64 t.r.1, .int .i64 t.r.2.1, .bool t.r.2.2.1, .bool t.r.2.2.2, .int .i64 t.q.1, .int .i64 t.q.2.1, .bool t.q.2.2.1, .bool t.q.2.2.2, .slice (some ⟨gb, off, none⟩) 1 cl] 29)).heap[W.heap.size]? = some (.cells #[.int .i64 t.k, .int .i64 t.n, .string (bs t.s), .int .i64 t.e, .int .i64 t.r.1, .int .i64 t.r.2.1, .bool t.r.2.2.1, .bool t.r.2.2.2, .int .i64 t.q.1, .int .i64 t.q.2.1, .bool t.q.2.2.1, .bool t.q.2.2.2, .slice (some ⟨gb, off, none⟩) 1 cl] 29 (0, 0))) := new_top W _
 refine (pbyte_any w0 b l 45 _ (HB.out.ext ((Ext.refl _).alloc _)) (by have := HN.out; omega)).mono ?_
 rintro e w2 ⟨rfl, B2, K2⟩
 have hb2 := K2.blk HNT.out (by omega) (by decide)
 have HB2 : Hid (Bu w0 b (l ++ [45]) w2 ∧ Ok9 b W w2) := ⟨B2, (((Ext.refl W).alloc _).toK b).trans K2⟩
 obtain ⟨k0, k1, k2, k3, k4, k5, k6, k7, k8, k9, k10, k11, k12⟩ := cells13 hb2
 obtain ⟨c0, c1, c2, c3, c4, c5, c6, c7, c8, c9, c10, c11, c12⟩ := HC.out w2 B2.1
 clear B2 K2 hb2 HNT
 go_wp2_with fail
 refine (HP.out _ _ HB2.out.1 (by have := HN.out; rw [List.length_append]; simp; omega)).mono ?_
 rintro e w3 ⟨rfl, B3, K3⟩
 have HB3 : Hid (Bu w0 b (l ++ [45] ++ brkL (loose (4 + 1) x) (shT n x)) w3 ∧ Ok9 b W w3) := ⟨B3, HB2.out.2.trans K3⟩
 clear B3 K3 HB2 k0 k1 k2 k3 k4 k5 k6 k7 k8 k9 k10 k11 k12 c0 c1 c2 c3 c4 c5 c6 c7 c8 c9 c10 c11 c12
 go_wp2_with fail
 go_end0
 refine ⟨rfl, ?_, HB3.out.2⟩
 rw [HX.out]
 have := HB3.out.1
 simpa using this
set_option maxRecDepth 100000 in
theorem tree_bin (n : Nat) (t : T) (hk : t.k = 7) (_hW : Wf t) (x y : T) (hl : t.l = [x, y]) (hs0 : bnd t.s ≠ 0) (hx : ∀ k, k ≤ 4 → PPt n k x) (hy : ∀ k, k ≤ 4 → PPt n k y) (lx : (shT n x).length + 1 ≤ 701 * szT n x) : PTr (n + 1) t := by
 intro w0 W b l pp ln cl hTab hBu hL hlen
 have e0 : (t.k == 0) = false := by rw [hk]; rfl
 have e1 : (t.k == 1) = false := by rw [hk]; rfl
 have e2 : (t.k == 2) = false := by rw [hk]; rfl
 have e3 : (t.k == 3) = false := by rw [hk]; rfl
 have e4 : (t.k == 4) = false := by rw [hk]; rfl
 have e5 : (t.k == 5) = false := by rw [hk]; rfl
 have e6 : (t.k == 6) = false := by rw [hk]; rfl
 have e7 : (t.k == 7) = true := by rw [hk]; rfl
 have HX : Hid (shT (n + 1) t = brkL (loose (bnd t.s) x) (shT n x) ++ t.s ++ brkL (loose (bnd t.s + 1) y) (shT n y)) := by show _ = _; rw [shT]; simp [hk, hl, hdT, sdT]
 have hz : szT (n + 1) t = 1 + (szT n x + szT n y) := by rw [szT, hl]; simp
 rw [hz] at hlen
 obtain ⟨gb, off, qq, lm, cm, hpp, hln, hLx, hce⟩ := elem_at hL (show t.l[0]? = some x by rw [hl]; rfl)
 obtain ⟨gb', off', q2, l2, cz, hpp', hln', hLy, hce'⟩ := elem_at hL (show t.l[1]? = some y by rw [hl]; rfl)
 rw [hpp] at hpp'
 cases hpp'
 rw [hl] at hln
 simp only [Nat.zero_mul, Nat.add_zero] at hce
 simp only [Nat.one_mul] at hce'
 replace hln : ln = 2 := hln
 clear hln'
 subst hpp hln
 have HB : Hid (Bu w0 b l W) := hBu
 have hbW : b < W.heap.size := by rcases hBu.2 with h | h <;> exact h.lt
 have HP : Hid (∀ V, Bu w0 b l V → Calls Tryz.prog 43 #[.pointer (some ⟨b, 0, none⟩), .agg #[.int .i64 x.k, .int .i64 x.n, .string (bs x.s), .int .i64 x.e, .int .i64 x.r.1, .int .i64 x.r.2.1, .bool x.r.2.2.1, .bool x.r.2.2.2, .int .i64 x.q.1, .int .i64 x.q.2.1, .bool x.q.2.2.1, .bool x.q.2.2.2, .slice qq lm cm], .string (bs t.s), .agg #[.int .i64 y.k, .int .i64 y.n, .string (bs y.s), .int .i64 y.e, .int .i64 y.r.1, .int .i64 y.r.2.1, .bool y.r.2.2.1, .bool y.r.2.2.2, .int .i64 y.q.1, .int .i64 y.q.2.1, .bool y.q.2.2.1, .bool y.q.2.2.2, .slice q2 l2 cz]] V (PrQ w0 b V (l ++ (brkL (loose (bnd t.s) x) (shT n x) ++ t.s ++ brkL (loose (bnd t.s + 1) y) (shT n y))))) := fun V h => sides_any n x y t.s hs0 hx hy lx w0 V b l qq q2 lm cm l2 cz hTab h hLx hLy hlen
 rw [← HX.out] at HP
 have HC : Hid (∀ V, Ext w0 V → (V.cell? ⟨gb, off, none⟩ = some (.int .i64 x.k) ∧ V.cell? ⟨gb, off + 1, none⟩ = some (.int .i64 x.n) ∧ V.cell? ⟨gb, off + 2, none⟩ = some (.string (bs x.s)) ∧ V.cell? ⟨gb, off + 3, none⟩ = some (.int .i64 x.e) ∧ V.cell? ⟨gb, off + 4, none⟩ = some (.int .i64 x.r.1) ∧ V.cell? ⟨gb, off + 5, none⟩ = some (.int .i64 x.r.2.1) ∧ V.cell? ⟨gb, off + 6, none⟩ = some (.bool x.r.2.2.1) ∧ V.cell? ⟨gb, off + 7, none⟩ = some (.bool x.r.2.2.2) ∧ V.cell? ⟨gb, off + 8, none⟩ = some (.int .i64 x.q.1) ∧ V.cell? ⟨gb, off + 9, none⟩ = some (.int .i64 x.q.2.1) ∧ V.cell? ⟨gb, off + 10, none⟩ = some (.bool x.q.2.2.1) ∧ V.cell? ⟨gb, off + 11, none⟩ = some (.bool x.q.2.2.2) ∧ V.cell? ⟨gb, off + 12, none⟩ = some (.slice qq lm cm)) ∧ (V.cell? ⟨gb, off + 13, none⟩ = some (.int .i64 y.k) ∧ V.cell? ⟨gb, off + 13 + 1, none⟩ = some (.int .i64 y.n) ∧ V.cell? ⟨gb, off + 13 + 2, none⟩ = some (.string (bs y.s)) ∧ V.cell? ⟨gb, off + 13 + 3, none⟩ = some (.int .i64 y.e) ∧ V.cell? ⟨gb, off + 13 + 4, none⟩ = some (.int .i64 y.r.1) ∧ V.cell? ⟨gb, off + 13 + 5, none⟩ = some (.int .i64 y.r.2.1) ∧ V.cell? ⟨gb, off + 13 + 6, none⟩ = some (.bool y.r.2.2.1) ∧ V.cell? ⟨gb, off + 13 + 7, none⟩ = some (.bool y.r.2.2.2) ∧ V.cell? ⟨gb, off + 13 + 8, none⟩ = some (.int .i64 y.q.1) ∧ V.cell? ⟨gb, off + 13 + 9, none⟩ = some (.int .i64 y.q.2.1) ∧ V.cell? ⟨gb, off + 13 + 10, none⟩ = some (.bool y.q.2.2.1) ∧ V.cell? ⟨gb, off + 13 + 11, none⟩ = some (.bool y.q.2.2.2) ∧ V.cell? ⟨gb, off + 13 + 12, none⟩ = some (.slice q2 l2 cz))) := fun V e => ⟨hce V e, hce' V e⟩
 clear hTab hBu hL hlen _hW hk hx hy hl hz hce hce' hLx hLy hs0 lx
 obtain ⟨⟨c0, c1, c2, c3, c4, c5, c6, c7, c8, c9, c10, c11, c12⟩, d0, d1, d2, d3, d4, d5, d6, d7, d8, d9, d10, d11, d12⟩ := HC.out _ (HB.out.1.trans ((Ext.refl W).alloc (.cells #[.int .i64 t.k, .int .i64 t.n, .string (bs t.s), .int .i64 t.e, .int .i64 t.r.1, .int .i64 t.r.2.1, .bool t.r.2.2.1, .bool t.r.2.2.2, .int .i64 t.q.1, .int .i64 t.q.2.1, .bool t.q.2.2.1, .bool t.q.2.2.2, .slice (some ⟨gb, off, none⟩) 2 cl] 29)))
 go_enter Tryz.func18, Tryz.ntmps18
 go_wp2_with fail
 have HB1 : Hid (Bu w0 b l (W.alloc (.cells #[.int .i64 t.k, .int .i64 t.n, .string (bs t.s), .int .i64 t.e, .int .i64 t.r.1, .int .i64 t.r.2.1, .bool t.r.2.2.1, .bool t.r.2.2.2, .int .i64 t.q.1, .int .i64 t.q.2.1, .bool t.q.2.2.1, .bool t.q.2.2.2, .slice (some ⟨gb, off, none⟩) 2 cl] 29)) ∧ Ext W (W.alloc (.cells #[.int .i64 t.k, .int .i64 t.n, .string (bs t.s), .int .i64 t.e, .int .i64 t.r.1, .int .i64 t.r.2.1, .bool t.r.2.2.1, .bool t.r.2.2.2, .int .i64 t.q.1, .int .i64 t.q.2.1, .bool t.q.2.2.1, .bool t.q.2.2.2, .slice (some ⟨gb, off, none⟩) 2 cl] 29))) := ⟨HB.out.ext ((Ext.refl _).alloc _), (Ext.refl _).alloc _⟩
 obtain ⟨qz, ⟨k0, k1, k2, k3, k4, k5, k6, k7, k8, k9, k10, k11, k12⟩, gz⟩ := blk13_top (b := W.heap.size) rfl (Ext.refl (W.alloc (.cells #[.int .i64 t.k, .int .i64 t.n, .string (bs t.s), .int .i64 t.e, .int .i64 t.r.1, .int .i64 t.r.2.1, .bool t.r.2.2.1, .bool t.r.2.2.2, .int .i64 t.q.1, .int .i64 t.q.2.1, .bool t.q.2.2.1, .bool t.q.2.2.2, .slice (some ⟨gb, off, none⟩) 2 cl] 29)))
 clear qz gz
 have HNT : Hid ((W.alloc (.cells #[.int .i64 t.k, .int .i64 t.n, .string (bs t.s), .int .i64 t.e, .int .i64 t.r.1, .int .i64 t.r.2.1, .bool t.r.2.2.1, .bool t.r.2.2.2, .int .i64 t.q.1, .int .i64 t.q.2.1, .bool t.q.2.2.1, .bool t.q.2.2.2, .slice (some ⟨gb, off, none⟩) 2 cl] 29)).heap[W.heap.size]? = some (.cells #[.int .i64 t.k, .int .i64 t.n, .string (bs t.s), .int .i64 t.e, .int .i64 t.r.1, .int .i64 t.r.2.1, .bool t.r.2.2.1, .bool t.r.2.2.2, .int .i64 t.q.1, .int .i64 t.q.2.1, .bool t.q.2.2.1, .bool t.q.2.2.2, .slice (some ⟨gb, off, none⟩) 2 cl] 29 (0, 0))) := new_top W _
 generalize W.alloc (.cells #[.int .i64 t.k, .int .i64 t.n, .string (bs t.s), .int .i64 t.e, .int .i64 t.r.1, .int .i64 t.r.2.1, .bool t.r.2.2.1, .bool t.r.2.2.2, .int .i64 t.q.1, .int .i64 t.q.2.1, .bool t.q.2.2.1, .bool t.q.2.2.2, .slice (some ⟨gb, off, none⟩) 2 cl] 29) = W1 at *
 have HP1 : Hid (∀ V, Ext W1 V → Calls Tryz.prog 43 #[.pointer (some ⟨b, 0, none⟩), .agg #[.int .i64 x.k, .int .i64 x.n, .string (bs x.s), .int .i64 x.e, .int .i64 x.r.1, .int .i64 x.r.2.1, .bool x.r.2.2.1, .bool x.r.2.2.2, .int .i64 x.q.1, .int .i64 x.q.2.1, .bool x.q.2.2.1, .bool x.q.2.2.2, .slice qq lm cm], .string (bs t.s), .agg #[.int .i64 y.k, .int .i64 y.n, .string (bs y.s), .int .i64 y.e, .int .i64 y.r.1, .int .i64 y.r.2.1, .bool y.r.2.2.1, .bool y.r.2.2.2, .int .i64 y.q.1, .int .i64 y.q.2.1, .bool y.q.2.2.1, .bool y.q.2.2.2, .slice q2 l2 cz]] V (PrQ w0 b V (l ++ shT (n + 1) t))) := fun V e => HP.out V (HB1.out.1.ext e)
 have mkS : Hid (∀ V, Ok9 b W1 V → Ext w0 V → (V.cell? ⟨W.heap.size, 2, none⟩ = some (.string (bs t.s)) ∧ V.cell? ⟨W.heap.size, 12, none⟩ = some (.slice (some ⟨gb, off, none⟩) 2 cl)) ∧ (V.cell? ⟨gb, off, none⟩ = some (.int .i64 x.k) ∧ V.cell? ⟨gb, off + 1, none⟩ = some (.int .i64 x.n) ∧ V.cell? ⟨gb, off + 2, none⟩ = some (.string (bs x.s)) ∧ V.cell? ⟨gb, off + 3, none⟩ = some (.int .i64 x.e) ∧ V.cell? ⟨gb, off + 4, none⟩ = some (.int .i64 x.r.1) ∧ V.cell? ⟨gb, off + 5, none⟩ = some (.int .i64 x.r.2.1) ∧ V.cell? ⟨gb, off + 6, none⟩ = some (.bool x.r.2.2.1) ∧ V.cell? ⟨gb, off + 7, none⟩ = some (.bool x.r.2.2.2) ∧ V.cell? ⟨gb, off + 8, none⟩ = some (.int .i64 x.q.1) ∧ V.cell? ⟨gb, off + 9, none⟩ = some (.int .i64 x.q.2.1) ∧ V.cell? ⟨gb, off + 10, none⟩ = some (.bool x.q.2.2.1) ∧ V.cell? ⟨gb, off + 11, none⟩ = some (.bool x.q.2.2.2) ∧ V.cell? ⟨gb, off + 12, none⟩ = some (.slice qq lm cm)) ∧ (V.cell? ⟨gb, off + 13, none⟩ = some (.int .i64 y.k) ∧ V.cell? ⟨gb, off + 13 + 1, none⟩ = some (.int .i64 y.n) ∧ V.cell? ⟨gb, off + 13 + 2, none⟩ = some (.string (bs y.s)) ∧ V.cell? ⟨gb, off + 13 + 3, none⟩ = some (.int .i64 y.e) ∧ V.cell? ⟨gb, off + 13 + 4, none⟩ = some (.int .i64 y.r.1) ∧ V.cell? ⟨gb, off + 13 + 5, none⟩ = some (.int .i64 y.r.2.1) ∧ V.cell? ⟨gb, off + 13 + 6, none⟩ = some (.bool y.r.2.2.1) ∧ V.cell? ⟨gb, off + 13 + 7, none⟩ = some (.bool y.r.2.2.2) ∧ V.cell? ⟨gb, off + 13 + 8, none⟩ = some (.int .i64 y.q.1) ∧ V.cell? ⟨gb, off + 13 + 9, none⟩ = some (.int .i64 y.q.2.1) ∧ V.cell? ⟨gb, off + 13 + 10, none⟩ = some (.bool y.q.2.2.1) ∧ V.cell? ⟨gb, off + 13 + 11, none⟩ = some (.bool y.q.2.2.2) ∧ V.cell? ⟨gb, off + 13 + 12, none⟩ = some (.slice q2 l2 cz))) := fun V k e => by
   have hb := k.blk HNT.out (by omega) (by decide)
   obtain ⟨y0, y1, y2, y3, y4, y5, y6, y7, y8, y9, y10, y11, y12⟩ := cells13 hb
   exact ⟨⟨y2, y12⟩, HC.out V e⟩
 clear k0 k1 k2 k3 k4 k5 k6 k7 k8 k9 k10 k11 k12 c0 c1 c2 c3 c4 c5 c6 c7 c8 c9 c10 c11 c12 d0 d1 d2 d3 d4 d5 d6 d7 d8 d9 d10 d11 d12
 refine wp_region_held_drew (S := (fun V => (V.cell? ⟨W.heap.size, 2, none⟩ = some (.string (bs t.s)) ∧ V.cell? ⟨W.heap.size, 12, none⟩ = some (.slice (some ⟨gb, off, none⟩) 2 cl)) ∧ (V.cell? ⟨gb, off, none⟩ = some (.int .i64 x.k) ∧ V.cell? ⟨gb, off + 1, none⟩ = some (.int .i64 x.n) ∧ V.cell? ⟨gb, off + 2, none⟩ = some (.string (bs x.s)) ∧ V.cell? ⟨gb, off + 3, none⟩ = some (.int .i64 x.e) ∧ V.cell? ⟨gb, off + 4, none⟩ = some (.int .i64 x.r.1) ∧ V.cell? ⟨gb, off + 5, none⟩ = some (.int .i64 x.r.2.1) ∧ V.cell? ⟨gb, off + 6, none⟩ = some (.bool x.r.2.2.1) ∧ V.cell? ⟨gb, off + 7, none⟩ = some (.bool x.r.2.2.2) ∧ V.cell? ⟨gb, off + 8, none⟩ = some (.int .i64 x.q.1) ∧ V.cell? ⟨gb, off + 9, none⟩ = some (.int .i64 x.q.2.1) ∧ V.cell? ⟨gb, off + 10, none⟩ = some (.bool x.q.2.2.1) ∧ V.cell? ⟨gb, off + 11, none⟩ = some (.bool x.q.2.2.2) ∧ V.cell? ⟨gb, off + 12, none⟩ = some (.slice qq lm cm)) ∧ (V.cell? ⟨gb, off + 13, none⟩ = some (.int .i64 y.k) ∧ V.cell? ⟨gb, off + 13 + 1, none⟩ = some (.int .i64 y.n) ∧ V.cell? ⟨gb, off + 13 + 2, none⟩ = some (.string (bs y.s)) ∧ V.cell? ⟨gb, off + 13 + 3, none⟩ = some (.int .i64 y.e) ∧ V.cell? ⟨gb, off + 13 + 4, none⟩ = some (.int .i64 y.r.1) ∧ V.cell? ⟨gb, off + 13 + 5, none⟩ = some (.int .i64 y.r.2.1) ∧ V.cell? ⟨gb, off + 13 + 6, none⟩ = some (.bool y.r.2.2.1) ∧ V.cell? ⟨gb, off + 13 + 7, none⟩ = some (.bool y.r.2.2.2) ∧ V.cell? ⟨gb, off + 13 + 8, none⟩ = some (.int .i64 y.q.1) ∧ V.cell? ⟨gb, off + 13 + 9, none⟩ = some (.int .i64 y.q.2.1) ∧ V.cell? ⟨gb, off + 13 + 10, none⟩ = some (.bool y.q.2.2.1) ∧ V.cell? ⟨gb, off + 13 + 11, none⟩ = some (.bool y.q.2.2.2) ∧ V.cell? ⟨gb, off + 13 + 12, none⟩ = some (.slice q2 l2 cz)))) (by kernel_rfl) ?_ (fun hHeld0 => ?_)
 · (first | (exact mkS.out _ HB9.out.2.2 HB9.out.1.1) | (refine mkS.out _ (Ext.toK (by with_reducible repeat (first | assumption | exact Ext.refl _ | apply Ext.drew | apply Ext.drewN)) b) (HB1.out.1.1.trans (by with_reducible repeat (first | assumption | exact Ext.refl _ | apply Ext.drew | apply Ext.drewN)))))
 refine wpAnyH_take (i := 0) (oi := ⟨some 83, .move (.tmp 0), 78, "print.go:68", #[], none⟩) (v := ?_) rfl (by kernel_rfl) (by kernel_rfl) (by kernel_rfl) (fun _ _ _ h => h) (Or.inl ⟨by rfl, ?_⟩) (by assumption) ?_
 rotate_left
 · intro w hSw; (try dsimp only at hSw); first | (go_simp; done) | (go_simp; with_reducible rfl)
 try simp only [Act.put, List.setIfInBounds_toArray, List.set_cons_zero, List.set_cons_succ]
 refine wpAnyH_take (i := 1) (oi := ⟨some 84, .fieldAddr 29 (.tmp 3) 6, 0, "print.go:68", #[], none⟩) (v := ?_) rfl (by kernel_rfl) (by kernel_rfl) (by kernel_rfl) (fun _ _ _ h => h) (Or.inl ⟨by rfl, ?_⟩) (by assumption) ?_
 rotate_left
 · intro w hSw; (try dsimp only at hSw); first | (go_simp; done) | (go_simp; with_reducible rfl)
 try simp only [Act.put, List.setIfInBounds_toArray, List.set_cons_zero, List.set_cons_succ]
 refine wpAnyH_take (i := 2) (oi := ⟨some 85, .load 27 (.tmp 84), 27, "print.go:68", #[⟨1, .data⟩], none⟩) (v := ?_) rfl (by kernel_rfl) (by kernel_rfl) (by kernel_rfl) (fun _ _ _ h => h) (Or.inl ⟨by rfl, ?_⟩) (by assumption) ?_
 rotate_left
 · intro w hSw; (try dsimp only at hSw); first | (go_simp; done) | (go_simp; with_reducible rfl)
 try simp only [Act.put, List.setIfInBounds_toArray, List.set_cons_zero, List.set_cons_succ]
 refine wpAnyH_take (i := 3) (oi := ⟨some 86, .indexAddr 27 (.tmp 85) (.const (.int .i64 0)), 0, "print.go:68", #[⟨2, .data⟩], none⟩) (v := ?_) rfl (by kernel_rfl) (by kernel_rfl) (by kernel_rfl) (fun _ _ _ h => h) (Or.inl ⟨by rfl, ?_⟩) (by assumption) ?_
 rotate_left
 · intro w hSw; (try dsimp only at hSw); first | (go_simp; done) | (go_simp; with_reducible rfl)
 try simp only [Act.put, List.setIfInBounds_toArray, List.set_cons_zero, List.set_cons_succ]
 refine wpAnyH_take (i := 4) (oi := ⟨some 87, .load 29 (.tmp 86), 29, "print.go:68", #[⟨3, .data⟩], none⟩) (v := ?_) rfl (by kernel_rfl) (by kernel_rfl) (by kernel_rfl) (fun _ _ _ h => h) (Or.inl ⟨by rfl, ?_⟩) (by assumption) ?_
 rotate_left
 · intro w hSw; (try dsimp only at hSw); first | (go_simp; done) | (go_simp; with_reducible rfl)
 try simp only [Act.put, List.setIfInBounds_toArray, List.set_cons_zero, List.set_cons_succ]
 refine wpAnyH_take (i := 5) (oi := ⟨some 88, .fieldAddr 29 (.tmp 3) 2, 0, "print.go:68", #[], none⟩) (v := ?_) rfl (by kernel_rfl) (by kernel_rfl) (by kernel_rfl) (fun _ _ _ h => h) (Or.inl ⟨by rfl, ?_⟩) (by assumption) ?_
 rotate_left
 · intro w hSw; (try dsimp only at hSw); first | (go_simp; done) | (go_simp; with_reducible rfl)
 try simp only [Act.put, List.setIfInBounds_toArray, List.set_cons_zero, List.set_cons_succ]
 refine wpAnyH_take (i := 6) (oi := ⟨some 89, .load 9 (.tmp 88), 9, "print.go:68", #[⟨5, .data⟩], none⟩) (v := ?_) rfl (by kernel_rfl) (by kernel_rfl) (by kernel_rfl) (fun _ _ _ h => h) (Or.inl ⟨by rfl, ?_⟩) (by assumption) ?_
 rotate_left
 · intro w hSw; (try dsimp only at hSw); first | (go_simp; done) | (go_simp; with_reducible rfl)
 try simp only [Act.put, List.setIfInBounds_toArray, List.set_cons_zero, List.set_cons_succ]
 refine wpAnyH_take (i := 7) (oi := ⟨some 90, .fieldAddr 29 (.tmp 3) 6, 0, "print.go:68", #[], none⟩) (v := ?_) rfl (by kernel_rfl) (by kernel_rfl) (by kernel_rfl) (fun _ _ _ h => h) (Or.inl ⟨by rfl, ?_⟩) (by assumption) ?_
 rotate_left
 · intro w hSw; (try dsimp only at hSw); first | (go_simp; done) | (go_simp; with_reducible rfl)
 try simp only [Act.put, List.setIfInBounds_toArray, List.set_cons_zero, List.set_cons_succ]
 refine wpAnyH_take (i := 8) (oi := ⟨some 91, .load 27 (.tmp 90), 27, "print.go:68", #[⟨7, .data⟩], none⟩) (v := ?_) rfl (by kernel_rfl) (by kernel_rfl) (by kernel_rfl) (fun _ _ _ h => h) (Or.inl ⟨by rfl, ?_⟩) (by assumption) ?_
 rotate_left
 · intro w hSw; (try dsimp only at hSw); first | (go_simp; done) | (go_simp; with_reducible rfl)
 try simp only [Act.put, List.setIfInBounds_toArray, List.set_cons_zero, List.set_cons_succ]
 refine wpAnyH_take (i := 9) (oi := ⟨some 92, .indexAddr 27 (.tmp 91) (.const (.int .i64 1)), 0, "print.go:68", #[⟨8, .data⟩], none⟩) (v := ?_) rfl (by kernel_rfl) (by kernel_rfl) (by kernel_rfl) (fun _ _ _ h => h) (Or.inl ⟨by rfl, ?_⟩) (by assumption) ?_
 rotate_left
 · intro w hSw; (try dsimp only at hSw); first | (go_simp; done) | (go_simp; with_reducible rfl)
 try simp only [Act.put, List.setIfInBounds_toArray, List.set_cons_zero, List.set_cons_succ]
 refine wpAnyH_take (i := 10) (oi := ⟨some 93, .load 29 (.tmp 92), 29, "print.go:68", #[⟨9, .data⟩], none⟩) (v := ?_) rfl (by kernel_rfl) (by kernel_rfl) (by kernel_rfl) (fun _ _ _ h => h) (Or.inl ⟨by rfl, ?_⟩) (by assumption) ?_
 rotate_left
 · intro w hSw; (try dsimp only at hSw); first | (go_simp; done) | (go_simp; with_reducible rfl)
 try simp only [Act.put, List.setIfInBounds_toArray, List.set_cons_zero, List.set_cons_succ]
 refine wpAnyH_ready (rs := [11]) (by kernel_rfl) (by simp) ?_
 refine AllReadyH.cons (o := ⟨some 94, .call { callee := .value (.func 43), args := #[.tmp 83, .tmp 87, .tmp 89, .tmp 93], argTypes := #[78, 29, 9, 29] }, 0, "print.go:68", #[⟨0, .data⟩, ⟨4, .data⟩, ⟨6, .data⟩, ⟨10, .data⟩], none⟩) rfl (fun K hK => ?_) AllReadyH.nil
 go_simp
 (go_at_call 43; refine Calls.mono (HP1.out _ (by with_reducible repeat (first | assumption | exact Ext.refl _ | apply Ext.drew | apply Ext.drewN))) ?_; rintro e w9 ⟨rfl, B9, K9⟩; have HB9 : Hid (Bu w0 b (l ++ shT (n + 1) t) w9 ∧ Ok9 b W w9 ∧ Ok9 b W1 w9) := ⟨B9, (Ok9.trans (HB1.out.2.toK b) (Ext.toK (by with_reducible repeat (first | assumption | exact Ext.refl _ | apply Ext.drew | apply Ext.drewN)) b)).trans K9, (Ext.toK (by with_reducible repeat (first | assumption | exact Ext.refl _ | apply Ext.drew | apply Ext.drewN)) b).trans K9⟩; clear B9 K9)
 try go_wp2_with fail
 refine hK.out _ _ ?_ (fun hHeld1 => ?_)
 · (try dsimp only); (first | (exact mkS.out _ HB9.out.2.2 HB9.out.1.1) | (refine mkS.out _ (Ext.toK (by with_reducible repeat (first | assumption | exact Ext.refl _ | apply Ext.drew | apply Ext.drewN)) b) (HB1.out.1.1.trans (by with_reducible repeat (first | assumption | exact Ext.refl _ | apply Ext.drew | apply Ext.drewN)))))
 clear hK K hHeld0
 try simp only [Act.put, List.setIfInBounds_toArray, List.set_cons_zero, List.set_cons_succ]
 refine wpAnyH_done (by kernel_rfl) ?_ _
 go_wp2_with fail
 go_end0
 exact ⟨rfl, HB9.out.1, HB9.out.2.1⟩
set_option maxRecDepth 100000 in
theorem tree_call (n : Nat) (t : T) (hk : t.k = 8) (_hW : Wf t) (hs : t.s.length ≤ 8) (hl : t.l.length ≤ 100) (hx : ∀ x ∈ t.l, PTr n x) (hsl : ∀ x ∈ t.l, (shT n x).length + 1 ≤ 701 * szT n x) : PTr (n + 1) t := by
 intro w0 W b l pp ln cl hTab hBu hL hlen
 have e0 : (t.k == 0) = false := by rw [hk]; rfl
 have e1 : (t.k == 1) = false := by rw [hk]; rfl
 have e2 : (t.k == 2) = false := by rw [hk]; rfl
 have e3 : (t.k == 3) = false := by rw [hk]; rfl
 have e4 : (t.k == 4) = false := by rw [hk]; rfl
 have e5 : (t.k == 5) = false := by rw [hk]; rfl
 have e6 : (t.k == 6) = false := by rw [hk]; rfl
 have e7 : (t.k == 7) = false := by rw [hk]; rfl
 have e8 : (t.k == 8) = true := by rw [hk]; rfl
 have HX : Hid (shT (n + 1) t = t.s ++ 40 :: (joinL (t.l.map (shT n)) ++ [41])) := by show _ = _; rw [shT]; simp [hk]
 have hz : szT (n + 1) t = 1 + (t.l.map (szT n)).sum := by rw [szT]
 rw [hz] at hlen
 have HB : Hid (Bu w0 b l W) := hBu
 have HP : Hid (∀ V, Bu w0 b l V → Calls Tryz.prog 44 #[.pointer (some ⟨b, 0, none⟩), .string (bs t.s), .slice pp ln cl] V (PrQ w0 b V (l ++ (t.s ++ 40 :: (joinL (t.l.map (shT n)) ++ [41]))))) := fun V h => call_any n t.s t.l hs hl hx hsl w0 V b l pp ln cl hTab h hL hlen
 rw [← HX.out] at HP
 clear hTab hBu hL hlen _hW hk hx hl hz hs hsl
 go_enter Tryz.func18, Tryz.ntmps18
 go_wp2_with fail
 refine (HP.out _ (HB.out.ext ((Ext.refl _).alloc _))).mono ?_
 rintro e w3 ⟨rfl, B3, K3⟩
 have HB3 : Hid (Bu w0 b (l ++ shT (n + 1) t) w3 ∧ Ok9 b W w3) := ⟨B3, (((Ext.refl W).alloc _).toK b).trans K3⟩
 clear B3 K3
 go_wp2_with fail
 go_end0
 exact ⟨rfl, HB3.out.1, HB3.out.2⟩
/-- The printer writes every well made tree. -/
theorem tree_any (n : Nat) : ∀ t : T, Hr n t → Wf t → (wellT n t = true ∨ t.k = 5) → PTr n t := by
 induction n with
 | zero => intro t h; cases h
 | succ n ih =>
   intro t hr hw h
   by_cases k5 : t.k = 5
   · exact tree_range n t k5 hw
   have h := h.resolve_right k5
   have hkids := hw
   obtain ⟨_, w1, w2, w3, w4, w5, w6, w7, w8, w9⟩ := hkids
   unfold wellT at h
   by_cases k0 : t.k = 0
   · exact tree_num n t k0 hw
   by_cases k1 : t.k = 1
   · exact tree_text n t k1 hw (by simpa [k1] using h)
   by_cases k2 : t.k = 2
   · exact tree_bool n t k2 hw (by simpa [k2] using h)
   by_cases k3 : t.k = 3
   · exact tree_err n t k3 hw (by simpa [k3] using h)
   by_cases k4 : t.k = 4
   · exact tree_ref n t k4 hw
   have hn0 : ∀ x ∈ t.l, (wellT n x = true ∨ x.k = 5) → PTr n x ∧ (shT n x).length + 1 ≤ 701 * szT n x := by
     intro x hx hx1
     exact ⟨ih x (hr.2 x hx) (w9 x hx) hx1, sh_len _ x (w9 x hx) hx1⟩
   have hp : ∀ x ∈ t.l, wellT n x = true → ∀ k, k ≤ 4 → PPt n k x := by
     intro x hx hx1 k hk
     refine part_any n k hk x ?_ (hn0 x hx (.inl hx1)).1 (w9 x hx) (.inl hx1)
     intro h7
     cases n with
     | zero => cases hx1
     | succ n => unfold wellT at hx1; simp [h7] at hx1; exact hx1.1.1
   by_cases k6 : t.k = 6
   · simp only [k6] at h
     simp at h
     obtain ⟨h1, h2⟩ := h
     match hl : t.l, h1 with
     | [x], _ => exact tree_neg n t k6 hw x hl (hp x (by rw [hl]; simp) (h2 x (by rw [hl]; simp)) 4 (Nat.le_refl _))
   by_cases k7 : t.k = 7
   · simp only [k7] at h
     simp at h
     obtain ⟨⟨h0, h1⟩, h2⟩ := h
     match hl : t.l, h1 with
     | [x, y], _ => exact tree_bin n t k7 hw x y hl h0 (hp x (by rw [hl]; simp) (h2 x (by rw [hl]; simp))) (hp y (by rw [hl]; simp) (h2 y (by rw [hl]; simp))) (hn0 x (by rw [hl]; simp) (.inl (h2 x (by rw [hl]; simp)))).2
   by_cases k8 : t.k = 8
   · simp only [k8] at h
     simp at h
     obtain ⟨⟨⟨h1, _⟩, h3⟩, h2⟩ := h
     have hx : ∀ x ∈ t.l, wellT n x = true ∨ x.k = 5 := by
       intro x hx
       have := h2 x hx
       by_cases k : x.k = 5
       · exact .inr k
       · exact .inl (by simpa [k] using this)
     have hb : knB t.s ≤ 20 := by
       unfold knB
       cases hk : kno t.s with
       | none => simp
       | some p => obtain ⟨a, c⟩ := p; have := kno_le hk; simp; omega
     exact tree_call n t k8 hw (kno_len h1) (by omega) (fun x hx1 => (hn0 x hx1 (hx x hx1)).1) (fun x hx1 => (hn0 x hx1 (hx x hx1)).2)
   · simp [k0, k1, k2, k3, k4, k6, k7, k8] at h
end Go.Proofs.YtcggiljlilbdfaaGreatDoor
