import Derived.Test.YtjhmbkdkjgjoaaaX12
import Derived.Test.YtjhmbkdkjgjoaaaX6
import Derived.Test.YtjhmbkdkjgjoaaaX8
import Derived.Deep.CutBlock
import Derived.Deep.DeepCutAuto
import Derived.Test.YtjhmbkdkjgjoaaaX9
import Derived.Laws.IdiomCopy
import Derived.Laws.MakeOwn
import Derived.Test.YtjhmbkdkjgjoaaaX7
namespace Go.Proofs.Ytjhmbkdkjgjoaaa
open Go.RowKit
set_option maxHeartbeats 4000000
set_option maxRecDepth 100000 in
theorem ordered_any (B : Nat) (l : List Cl) (W : World) (v : Value) (h : RdC B W v l) (hl : l.length ≤ 100000) : Calls Try.prog 11 #[v] W fun e w' => e = .returned (.bool (sndB l)) ∧ Ext W w' := by
 obtain ⟨p, cp, rfl, _hcp⟩ := h.form
 obtain ⟨n, hn⟩ : ∃ n, l.length = n := ⟨_, rfl⟩
 have HL : Hid (RdC B W (.slice p n cp) l ∧ l.length = n ∧ n ≤ 100000) := ⟨by rw [← hn]; exact h, hn, by omega⟩
 rw [hn]
 clear h _hcp
 obtain ⟨ans, hans⟩ : ∃ ans, sndB l = ans := ⟨_, rfl⟩
 have HA : Hid (sndB l = ans) := hans
 rw [hans]
 clear hans hn hl
 go_enter Try.func11, Try.ntmps11
 go_wp2_with fail
 go_loopw [7] (fun iv wr => ∃ i : Nat, iv = .int .i64 (i : Int) ∧ i ≤ n ∧ (∀ q, q < i → okAt l q = true) ∧ Ext W wr) (fun iv _ => n - (intOf iv).toNat)
 case atStart => exact ⟨0, rfl, Nat.zero_le _, fun q hq => absurd hq (Nat.not_lt_zero _), Ext.refl _⟩
 case round =>
   obtain ⟨i, rfl, hi, hq, hE⟩ := hrel
   have HQ : Hid ((∀ q, q < i → okAt l q = true) ∧ Ext W wr ∧ i ≤ n) := ⟨hq, hE, hi⟩
   clear hq hE
   by_cases hlt : i < n
   · have hltI : (i : Int) < (n : Int) := by omega
     obtain ⟨x, hx⟩ : ∃ x, l[i]? = some x := ⟨_, List.getElem?_eq_getElem (by rw [HL.out.2.1]; exact hlt)⟩
     obtain ⟨gb, off, lv, rfl, hgb, hT, hce⟩ := (HL.out.1.ext HQ.out.2.1).at hx
     obtain ⟨lp, ln, lc, rfl⟩ : ∃ lp ln lc, lv = .slice lp ln lc := by obtain ⟨a, b, hab, _⟩ := hT.form; exact ⟨a, _, b, hab⟩
     have HX : Hid (l[i]? = some x) := hx
     have HR : Hid (wr.rangeAt gb (off + i * 21) [.int .i64 x.row, .int .i64 x.col, .string x.txt, .bool x.is, .int .i64 x.x.k, .int .i64 x.x.n, .string (bs x.x.s), .int .i64 x.x.e, .int .i64 x.x.r.1, .int .i64 x.x.r.2.1, .bool x.x.r.2.2.1, .bool x.x.r.2.2.2, .int .i64 x.x.q.1, .int .i64 x.x.q.2.1, .bool x.x.q.2.2.1, .bool x.x.q.2.2.2, .slice lp ln lc, .int .i64 x.vk, .int .i64 x.vn, .string x.vs, .int .i64 x.ve]) := hce
     have ci := fun V => in_any x.row x.col V
     obtain ⟨b, hb⟩ : ∃ b, inB x.row x.col = b := ⟨_, rfl⟩
     rw [hb] at ci
     have HB : Hid (inB x.row x.col = b) := hb
     clear hce hT hx hb hi
     obtain ⟨wk, hwk⟩ : ∃ wk, wk = wr := ⟨_, rfl⟩
     go_wp2_with (first | (refine wpList_load_mid rfl 33 _ rfl gb (off + i * 21) rfl _ _ HR.out Try.underlying33 rfl (by kernel_rfl) ?_) | (refine wpList_storeN _ rfl _ _ 33 rfl _ _ rfl rfl (by kernel_rfl) (by rfl) (by simp [Value.oneCell']) ?_))
     refine (ci _).mono ?_
     rintro e w1 ⟨rfl, rfl⟩
     cases b with
     | false =>
       go_wp2_with fail
       go_ret
       refine ⟨?_, HQ.out.2.1.alloc _⟩
       have hno : okAt l i = false := by unfold okAt; rw [clA_get HX.out, HB.out]; rfl
       rw [← HA.out, snd_no (by rw [HL.out.2.1]; exact hlt) hno]; rfl
     | true =>
       go_wp2_with fail
       rcases Nat.eq_zero_or_pos i with h0 | h0
       · have h1 : Hid (i = 0) := h0
         have hz : (i : Int) = 0 := by omega
         have HZ : Hid ((i : Int) = 0) := hz
         rw [hz]
         clear hz h0 hltI
         refine wp_region_held_drew (S := (fun _ => True)) (by kernel_rfl) ?_ (fun hHeld0 => ?_)
         · trivial
         refine wpAnyH_take (i := 0) (oi := ⟨some 18, .move (.tmp 3), 3, "region.go:105", #[], none⟩) (v := ?_) rfl (by kernel_rfl) (by kernel_rfl) (by kernel_rfl) (fun _ _ _ h => h) (Or.inl ⟨by rfl, ?_⟩) (by assumption) ?_
         rotate_left
         · intro w hSw; (try dsimp only at hSw); first | (go_simp; done) | (go_simp; with_reducible rfl)
         try simp only [Act.put, List.setIfInBounds_toArray, List.set_cons_zero, List.set_cons_succ]
         refine wpAnyH_take (i := 1) (oi := ⟨some 19, .binOp .gtr 3 (.tmp 18) (.const (.int .i64 0)) 3, 4, "region.go:105", #[⟨0, .data⟩], none⟩) (v := ?_) rfl (by kernel_rfl) (by kernel_rfl) (by kernel_rfl) (fun _ _ _ h => h) (Or.inl ⟨by rfl, ?_⟩) (by assumption) ?_
         rotate_left
         · intro w hSw; (try dsimp only at hSw); first | (go_simp; done) | (go_simp; with_reducible rfl)
         try simp only [Act.put, List.setIfInBounds_toArray, List.set_cons_zero, List.set_cons_succ]
         refine wpAnyH_take (i := 2) (oi := ⟨some 20, .move (.tmp 19), 4, "region.go:105", #[⟨1, .data⟩], none⟩) (v := ?_) rfl (by kernel_rfl) (by kernel_rfl) (by kernel_rfl) (fun _ _ _ h => h) (Or.inl ⟨by rfl, ?_⟩) (by assumption) ?_
         rotate_left
         · intro w hSw; (try dsimp only at hSw); first | (go_simp; done) | (go_simp; with_reducible rfl)
         try simp only [Act.put, List.setIfInBounds_toArray, List.set_cons_zero, List.set_cons_succ]
         refine wpAnyH_take (i := 3) (oi := ⟨some 21, .move (.tmp 0), 22, "region.go:105", #[⟨2, .guard⟩], some (2, true)⟩) (v := undef) rfl (by kernel_rfl) (by kernel_rfl) (by kernel_rfl) (fun _ _ _ h => h) (Or.inr ⟨by rfl, rfl⟩) (by assumption) ?_
         try simp only [Act.put, List.setIfInBounds_toArray, List.set_cons_zero, List.set_cons_succ]
         refine wpAnyH_take (i := 4) (oi := ⟨some 22, .move (.tmp 3), 3, "region.go:105", #[⟨2, .guard⟩], some (2, true)⟩) (v := undef) rfl (by kernel_rfl) (by kernel_rfl) (by kernel_rfl) (fun _ _ _ h => h) (Or.inr ⟨by rfl, rfl⟩) (by assumption) ?_
         try simp only [Act.put, List.setIfInBounds_toArray, List.set_cons_zero, List.set_cons_succ]
         refine wpAnyH_take (i := 5) (oi := ⟨some 23, .binOp .sub 3 (.tmp 22) (.const (.int .i64 1)) 3, 3, "region.go:105", #[⟨4, .data⟩, ⟨2, .guard⟩], some (2, true)⟩) (v := undef) rfl (by kernel_rfl) (by kernel_rfl) (by kernel_rfl) (fun _ _ _ h => h) (Or.inr ⟨by rfl, rfl⟩) (by assumption) ?_
         try simp only [Act.put, List.setIfInBounds_toArray, List.set_cons_zero, List.set_cons_succ]
         refine wpAnyH_take (i := 6) (oi := ⟨some 24, .indexAddr 22 (.tmp 21) (.tmp 23), 0, "region.go:105", #[⟨3, .data⟩, ⟨5, .data⟩, ⟨2, .guard⟩], some (2, true)⟩) (v := undef) rfl (by kernel_rfl) (by kernel_rfl) (by kernel_rfl) (fun _ _ _ h => h) (Or.inr ⟨by rfl, rfl⟩) (by assumption) ?_
         try simp only [Act.put, List.setIfInBounds_toArray, List.set_cons_zero, List.set_cons_succ]
         refine wpAnyH_take (i := 7) (oi := ⟨some 25, .load 33 (.tmp 24), 33, "region.go:105", #[⟨6, .data⟩, ⟨2, .guard⟩], some (2, true)⟩) (v := undef) rfl (by kernel_rfl) (by kernel_rfl) (by kernel_rfl) (fun _ _ _ h => h) (Or.inr ⟨by rfl, rfl⟩) (by assumption) ?_
         try simp only [Act.put, List.setIfInBounds_toArray, List.set_cons_zero, List.set_cons_succ]
         refine wpAnyH_take (i := 8) (oi := ⟨some 26, .call { callee := .value (.func 25), args := #[.tmp 25], argTypes := #[33] }, 69, "region.go:105", #[⟨7, .data⟩, ⟨2, .chain⟩, ⟨2, .guard⟩], some (2, true)⟩) (v := undef) rfl (by kernel_rfl) (by kernel_rfl) (by kernel_rfl) (fun _ _ _ h => h) (Or.inr ⟨by rfl, rfl⟩) (by assumption) ?_
         try simp only [Act.put, List.setIfInBounds_toArray, List.set_cons_zero, List.set_cons_succ]
         refine wpAnyH_take (i := 9) (oi := ⟨some 27, .load 33 (.tmp 4), 33, "region.go:105", #[⟨2, .guard⟩], some (2, true)⟩) (v := undef) rfl (by kernel_rfl) (by kernel_rfl) (by kernel_rfl) (fun _ _ _ h => h) (Or.inr ⟨by rfl, rfl⟩) (by assumption) ?_
         try simp only [Act.put, List.setIfInBounds_toArray, List.set_cons_zero, List.set_cons_succ]
         refine wpAnyH_take (i := 10) (oi := ⟨some 28, .call { callee := .value (.func 25), args := #[.tmp 27], argTypes := #[33] }, 69, "region.go:105", #[⟨9, .data⟩, ⟨8, .chain⟩, ⟨2, .guard⟩], some (2, true)⟩) (v := undef) rfl (by kernel_rfl) (by kernel_rfl) (by kernel_rfl) (fun _ _ _ h => h) (Or.inr ⟨by rfl, rfl⟩) (by assumption) ?_
         try simp only [Act.put, List.setIfInBounds_toArray, List.set_cons_zero, List.set_cons_succ]
         refine wpAnyH_take (i := 11) (oi := ⟨some 29, .call { callee := .value (.func 24), args := #[.tmp 26, .tmp 28], argTypes := #[69, 69] }, 3, "region.go:105", #[⟨8, .data⟩, ⟨10, .data⟩, ⟨10, .chain⟩, ⟨2, .guard⟩], some (2, true)⟩) (v := undef) rfl (by kernel_rfl) (by kernel_rfl) (by kernel_rfl) (fun _ _ _ h => h) (Or.inr ⟨by rfl, rfl⟩) (by assumption) ?_
         try simp only [Act.put, List.setIfInBounds_toArray, List.set_cons_zero, List.set_cons_succ]
         refine wpAnyH_take (i := 12) (oi := ⟨some 30, .binOp .geq 3 (.tmp 29) (.const (.int .i64 0)) 3, 4, "region.go:105", #[⟨11, .data⟩, ⟨2, .guard⟩], some (2, true)⟩) (v := undef) rfl (by kernel_rfl) (by kernel_rfl) (by kernel_rfl) (fun _ _ _ h => h) (Or.inr ⟨by rfl, rfl⟩) (by assumption) ?_
         try simp only [Act.put, List.setIfInBounds_toArray, List.set_cons_zero, List.set_cons_succ]
         refine wpAnyH_take (i := 13) (oi := ⟨some 31, .pick (.tmp 20) (.tmp 30) (.const (.bool false)), 4, "region.go:105", #[⟨2, .data⟩, ⟨12, .data⟩], none⟩) (v := ?_) rfl (by kernel_rfl) (by kernel_rfl) (by kernel_rfl) (fun _ _ _ h => h) (Or.inl ⟨by rfl, ?_⟩) (by assumption) ?_
         rotate_left
         · intro w hSw; (try dsimp only at hSw); first | (go_simp; done) | (go_simp; with_reducible rfl)
         try simp only [Act.put, List.setIfInBounds_toArray, List.set_cons_zero, List.set_cons_succ]
         refine wpAnyH_done (by kernel_rfl) ?_ _
         go_wp2_with fail
         go_roundw
         case rel =>
           refine ⟨1, rfl, by omega, fun q hq => ?_, (HQ.out.2.1.alloc _).drew⟩
           have e0 : q = i := by have := h1.out; omega
           subst e0
           unfold okAt
           rw [clA_get HX.out, HB.out, h1.out]; rfl
         case measure =>
           rw [HZ.out]
           have := h1.out
           exact (by show n - (1 : Int).toNat < n - (0 : Int).toNat; omega)
       · obtain ⟨j, hj⟩ : ∃ j, i = j + 1 := ⟨i - 1, by omega⟩
         have wj : IntKind.i64.wrap ((i : Int) - 1) = (j : Int) := by have := HL.out.2.2; rw [iwrap (by omega) (by omega)]; omega
         obtain ⟨iI, hI⟩ : ∃ z : Int, z = (i : Int) := ⟨_, rfl⟩
         have gi : decide (0 < iI) = true := by rw [hI]; exact decide_eq_true (by omega)
         have gi2 : 0 < iI := by omega
         have HII : Hid (iI = (i : Int)) := hI
         rw [← hI] at wj
         rw [← hI]
         clear hI
         have hjI : (j : Int) < (n : Int) := by omega
         have HJ : Hid (i = j + 1 ∧ j < n ∧ i < n) := ⟨hj, by omega, hlt⟩
         obtain ⟨y, hy⟩ : ∃ y, l[j]? = some y := ⟨_, List.getElem?_eq_getElem (by rw [HL.out.2.1]; omega)⟩
         obtain ⟨g2, o2, lv2, hgg, _hg2, hT2, hce2⟩ := (HL.out.1.ext HQ.out.2.1).at hy
         cases hgg
         obtain ⟨mp, mn, mc, rfl⟩ : ∃ mp mn mc, lv2 = .slice mp mn mc := by obtain ⟨a, b, hab, _⟩ := hT2.form; exact ⟨a, _, b, hab⟩
         obtain ⟨W2, hW2⟩ : ∃ W2, W2 = wr.alloc (.cells #[.int .i64 x.row, .int .i64 x.col, .string x.txt, .bool x.is, .int .i64 x.x.k, .int .i64 x.x.n, .string (bs x.x.s), .int .i64 x.x.e, .int .i64 x.x.r.1, .int .i64 x.x.r.2.1, .bool x.x.r.2.2.1, .bool x.x.r.2.2.2, .int .i64 x.x.q.1, .int .i64 x.x.q.2.1, .bool x.x.q.2.2.1, .bool x.x.q.2.2.2, .slice lp ln lc, .int .i64 x.vk, .int .i64 x.vn, .string x.vs, .int .i64 x.ve] 33) := ⟨_, rfl⟩
         have HW2 : Hid (Ext wr W2) := by rw [hW2]; exact (Ext.refl _).alloc _
         have mkS : Hid (∀ V, Ext W2 V → (fun V => V.rangeAt gb (off + j * 21) [.int .i64 y.row, .int .i64 y.col, .string y.txt, .bool y.is, .int .i64 y.x.k, .int .i64 y.x.n, .string (bs y.x.s), .int .i64 y.x.e, .int .i64 y.x.r.1, .int .i64 y.x.r.2.1, .bool y.x.r.2.2.1, .bool y.x.r.2.2.2, .int .i64 y.x.q.1, .int .i64 y.x.q.2.1, .bool y.x.q.2.2.1, .bool y.x.q.2.2.2, .slice mp mn mc, .int .i64 y.vk, .int .i64 y.vn, .string y.vs, .int .i64 y.ve] ∧ V.rangeAt wr.heap.size 0 [.int .i64 x.row, .int .i64 x.col, .string x.txt, .bool x.is, .int .i64 x.x.k, .int .i64 x.x.n, .string (bs x.x.s), .int .i64 x.x.e, .int .i64 x.x.r.1, .int .i64 x.x.r.2.1, .bool x.x.r.2.2.1, .bool x.x.r.2.2.2, .int .i64 x.x.q.1, .int .i64 x.x.q.2.1, .bool x.x.q.2.2.1, .bool x.x.q.2.2.2, .slice lp ln lc, .int .i64 x.vk, .int .i64 x.vn, .string x.vs, .int .i64 x.ve]) V) := by
           intro V e
           have e2 : Ext (wr.alloc (.cells #[.int .i64 x.row, .int .i64 x.col, .string x.txt, .bool x.is, .int .i64 x.x.k, .int .i64 x.x.n, .string (bs x.x.s), .int .i64 x.x.e, .int .i64 x.x.r.1, .int .i64 x.x.r.2.1, .bool x.x.r.2.2.1, .bool x.x.r.2.2.2, .int .i64 x.x.q.1, .int .i64 x.x.q.2.1, .bool x.x.q.2.2.1, .bool x.x.q.2.2.2, .slice lp ln lc, .int .i64 x.vk, .int .i64 x.vn, .string x.vs, .int .i64 x.ve] 33)) V := by rw [← hW2]; exact e
           exact ⟨rng_ext (W := wr) hce2 (HW2.out.trans e) hgb, rng_top e2⟩
         have HY : Hid (l[j]? = some y) := hy
         rw [← hW2]
         clear hce2 hT2 hy hj hlt hltI h0 hW2
         have cP := fun c lv V => place_any c lv V
         have cO := fun V => rginord_any (y.row, y.col) (x.row, x.col) V
         obtain ⟨r, hr⟩ : ∃ r, cmpQ (y.row, y.col) (x.row, x.col) = r := ⟨_, rfl⟩
         rw [hr] at cO
         have HR2 : Hid (cmpQ (y.row, y.col) (x.row, x.col) = r) := hr
         have HO : Hid (okAt l i = !decide (0 ≤ r)) := by
           unfold okAt
           have e1 : i - 1 = j := by have := HJ.out; omega
           have e2 : (i == 0) = false := by have := HJ.out; simp; omega
           rw [clA_get HX.out, HB.out, e1, clA_get HY.out, e2, ← hr, cmpQ_lt, Bool.not_not]
           rfl
         have HXW : Hid (∀ V, Ext W2 V → Ext W V) := fun V e => HQ.out.2.1.trans (HW2.out.trans e)
         clear hr
         refine wp_region_held_drew (S := (fun V => V.rangeAt gb (off + j * 21) [.int .i64 y.row, .int .i64 y.col, .string y.txt, .bool y.is, .int .i64 y.x.k, .int .i64 y.x.n, .string (bs y.x.s), .int .i64 y.x.e, .int .i64 y.x.r.1, .int .i64 y.x.r.2.1, .bool y.x.r.2.2.1, .bool y.x.r.2.2.2, .int .i64 y.x.q.1, .int .i64 y.x.q.2.1, .bool y.x.q.2.2.1, .bool y.x.q.2.2.2, .slice mp mn mc, .int .i64 y.vk, .int .i64 y.vn, .string y.vs, .int .i64 y.ve] ∧ V.rangeAt wr.heap.size 0 [.int .i64 x.row, .int .i64 x.col, .string x.txt, .bool x.is, .int .i64 x.x.k, .int .i64 x.x.n, .string (bs x.x.s), .int .i64 x.x.e, .int .i64 x.x.r.1, .int .i64 x.x.r.2.1, .bool x.x.r.2.2.1, .bool x.x.r.2.2.2, .int .i64 x.x.q.1, .int .i64 x.x.q.2.1, .bool x.x.q.2.2.1, .bool x.x.q.2.2.2, .slice lp ln lc, .int .i64 x.vk, .int .i64 x.vn, .string x.vs, .int .i64 x.ve])) (by kernel_rfl) ?_ (fun hHeld0 => ?_)
         · (refine mkS.out _ ?_; ((with_reducible (repeat (first | assumption | exact Ext.refl _ | apply Ext.drew | apply Ext.alloc))); done))
         refine wpAnyH_take (i := 0) (oi := ⟨some 18, .move (.tmp 3), 3, "region.go:105", #[], none⟩) (v := ?_) rfl (by kernel_rfl) (by kernel_rfl) (by kernel_rfl) (fun _ _ _ h => h) (Or.inl ⟨by rfl, ?_⟩) (by assumption) ?_
         rotate_left
         · intro w hSw; (try dsimp only at hSw); first | (go_simp; done) | (go_simp; with_reducible rfl)
         try simp only [Act.put, List.setIfInBounds_toArray, List.set_cons_zero, List.set_cons_succ]
         refine wpAnyH_take (i := 1) (oi := ⟨some 19, .binOp .gtr 3 (.tmp 18) (.const (.int .i64 0)) 3, 4, "region.go:105", #[⟨0, .data⟩], none⟩) (v := ?_) rfl (by kernel_rfl) (by kernel_rfl) (by kernel_rfl) (fun _ _ _ h => h) (Or.inl ⟨by rfl, ?_⟩) (by assumption) ?_
         rotate_left
         · intro w hSw; (try dsimp only at hSw); first | (go_simp; done) | (go_simp; with_reducible rfl)
         try simp only [Act.put, List.setIfInBounds_toArray, List.set_cons_zero, List.set_cons_succ]
         refine wpAnyH_take (i := 2) (oi := ⟨some 20, .move (.tmp 19), 4, "region.go:105", #[⟨1, .data⟩], none⟩) (v := ?_) rfl (by kernel_rfl) (by kernel_rfl) (by kernel_rfl) (fun _ _ _ h => h) (Or.inl ⟨by rfl, ?_⟩) (by assumption) ?_
         rotate_left
         · intro w hSw; (try dsimp only at hSw); first | (go_simp; done) | (go_simp; with_reducible rfl)
         try simp only [Act.put, List.setIfInBounds_toArray, List.set_cons_zero, List.set_cons_succ]
         refine wpAnyH_take (i := 3) (oi := ⟨some 21, .move (.tmp 0), 22, "region.go:105", #[⟨2, .guard⟩], some (2, true)⟩) (v := ?_) rfl (by kernel_rfl) (by kernel_rfl) (by kernel_rfl) (fun _ _ _ h => h) (Or.inl ⟨by rfl, ?_⟩) (by assumption) ?_
         rotate_left
         · intro w hSw; (try dsimp only at hSw); first | (go_simp; done) | (go_simp; with_reducible rfl)
         try simp only [Act.put, List.setIfInBounds_toArray, List.set_cons_zero, List.set_cons_succ]
         refine wpAnyH_take (i := 4) (oi := ⟨some 22, .move (.tmp 3), 3, "region.go:105", #[⟨2, .guard⟩], some (2, true)⟩) (v := ?_) rfl (by kernel_rfl) (by kernel_rfl) (by kernel_rfl) (fun _ _ _ h => h) (Or.inl ⟨by rfl, ?_⟩) (by assumption) ?_
         rotate_left
         · intro w hSw; (try dsimp only at hSw); first | (go_simp; done) | (go_simp; with_reducible rfl)
         try simp only [Act.put, List.setIfInBounds_toArray, List.set_cons_zero, List.set_cons_succ]
         refine wpAnyH_take (i := 5) (oi := ⟨some 23, .binOp .sub 3 (.tmp 22) (.const (.int .i64 1)) 3, 3, "region.go:105", #[⟨4, .data⟩, ⟨2, .guard⟩], some (2, true)⟩) (v := ?_) rfl (by kernel_rfl) (by kernel_rfl) (by kernel_rfl) (fun _ _ _ h => h) (Or.inl ⟨by rfl, ?_⟩) (by assumption) ?_
         rotate_left
         · intro w hSw; (try dsimp only at hSw); first | (go_simp; done) | (go_simp; with_reducible rfl)
         try simp only [Act.put, List.setIfInBounds_toArray, List.set_cons_zero, List.set_cons_succ]
         refine wpAnyH_take (i := 6) (oi := ⟨some 24, .indexAddr 22 (.tmp 21) (.tmp 23), 0, "region.go:105", #[⟨3, .data⟩, ⟨5, .data⟩, ⟨2, .guard⟩], some (2, true)⟩) (v := ?_) rfl (by kernel_rfl) (by kernel_rfl) (by kernel_rfl) (fun _ _ _ h => h) (Or.inl ⟨by rfl, ?_⟩) (by assumption) ?_
         rotate_left
         · intro w hSw; (try dsimp only at hSw); first | (go_simp; done) | (go_simp; with_reducible rfl)
         try simp only [Act.put, List.setIfInBounds_toArray, List.set_cons_zero, List.set_cons_succ]
         refine wpAnyH_take (i := 7) (oi := ⟨some 25, .load 33 (.tmp 24), 33, "region.go:105", #[⟨6, .data⟩, ⟨2, .guard⟩], some (2, true)⟩) (v := .agg ([.int .i64 y.row, .int .i64 y.col, .string y.txt, .bool y.is, .int .i64 y.x.k, .int .i64 y.x.n, .string (bs y.x.s), .int .i64 y.x.e, .int .i64 y.x.r.1, .int .i64 y.x.r.2.1, .bool y.x.r.2.2.1, .bool y.x.r.2.2.2, .int .i64 y.x.q.1, .int .i64 y.x.q.2.1, .bool y.x.q.2.2.1, .bool y.x.q.2.2.2, .slice mp mn mc, .int .i64 y.vk, .int .i64 y.vn, .string y.vs, .int .i64 y.ve]).toArray) rfl (by kernel_rfl) (by kernel_rfl) (by kernel_rfl) (fun _ _ _ h => h) (yieldsIf_load_mid (by rfl) 33 _ rfl gb (off + j * 21) rfl _ _ (fun _ h => h.1) Try.underlying33 rfl (by kernel_rfl)) (by assumption) ?_
         try simp only [Act.put, List.setIfInBounds_toArray, List.set_cons_zero, List.set_cons_succ]
         refine wpAnyH_take (i := 9) (oi := ⟨some 27, .load 33 (.tmp 4), 33, "region.go:105", #[⟨2, .guard⟩], some (2, true)⟩) (v := .agg ([.int .i64 x.row, .int .i64 x.col, .string x.txt, .bool x.is, .int .i64 x.x.k, .int .i64 x.x.n, .string (bs x.x.s), .int .i64 x.x.e, .int .i64 x.x.r.1, .int .i64 x.x.r.2.1, .bool x.x.r.2.2.1, .bool x.x.r.2.2.2, .int .i64 x.x.q.1, .int .i64 x.x.q.2.1, .bool x.x.q.2.2.1, .bool x.x.q.2.2.2, .slice lp ln lc, .int .i64 x.vk, .int .i64 x.vn, .string x.vs, .int .i64 x.ve]).toArray) rfl (by kernel_rfl) (by kernel_rfl) (by kernel_rfl) (fun _ _ _ h => h) (yieldsIf_load_mid (by rfl) 33 _ rfl wr.heap.size 0 rfl _ _ (fun _ h => h.2) Try.underlying33 rfl (by kernel_rfl)) (by assumption) ?_
         try simp only [Act.put, List.setIfInBounds_toArray, List.set_cons_zero, List.set_cons_succ]
         refine wpAnyH_ready (rs := [8]) (by kernel_rfl) (by simp) ?_
         refine AllReadyH.cons (o := ⟨some 26, .call { callee := .value (.func 25), args := #[.tmp 25], argTypes := #[33] }, 69, "region.go:105", #[⟨7, .data⟩, ⟨2, .chain⟩, ⟨2, .guard⟩], some (2, true)⟩) rfl (fun K hK => ?_) AllReadyH.nil
         go_simp
         refine (cP y (.slice mp mn mc) _).mono ?_; rintro e x1 ⟨rfl, E1⟩; have X1 : Ext W2 x1 := Ext.trans (by (with_reducible (first | assumption | exact Ext.refl _ | (apply Ext.drew; first | assumption | exact Ext.refl _)))) E1; clear E1
         try go_wp2_with fail
         refine hK.out _ _ ?_ (fun hHeld1 => ?_)
         · (try dsimp only); (refine mkS.out _ ?_; ((with_reducible (repeat (first | assumption | exact Ext.refl _ | apply Ext.drew | apply Ext.alloc))); done))
         clear hK K hHeld0
         try simp only [Act.put, List.setIfInBounds_toArray, List.set_cons_zero, List.set_cons_succ]
         refine wpAnyH_ready (rs := [10]) (by kernel_rfl) (by simp) ?_
         refine AllReadyH.cons (o := ⟨some 28, .call { callee := .value (.func 25), args := #[.tmp 27], argTypes := #[33] }, 69, "region.go:105", #[⟨9, .data⟩, ⟨8, .chain⟩, ⟨2, .guard⟩], some (2, true)⟩) rfl (fun K hK => ?_) AllReadyH.nil
         go_simp
         refine (cP x (.slice lp ln lc) _).mono ?_; rintro e x2 ⟨rfl, E2⟩; have X2 : Ext W2 x2 := Ext.trans (by (with_reducible (first | assumption | exact Ext.refl _ | (apply Ext.drew; first | assumption | exact Ext.refl _)))) E2; clear E2
         try go_wp2_with fail
         refine hK.out _ _ ?_ (fun hHeld2 => ?_)
         · (try dsimp only); (refine mkS.out _ ?_; ((with_reducible (repeat (first | assumption | exact Ext.refl _ | apply Ext.drew | apply Ext.alloc))); done))
         clear hK K hHeld1
         try simp only [Act.put, List.setIfInBounds_toArray, List.set_cons_zero, List.set_cons_succ]
         refine wpAnyH_ready (rs := [11]) (by kernel_rfl) (by simp) ?_
         refine AllReadyH.cons (o := ⟨some 29, .call { callee := .value (.func 24), args := #[.tmp 26, .tmp 28], argTypes := #[69, 69] }, 3, "region.go:105", #[⟨8, .data⟩, ⟨10, .data⟩, ⟨10, .chain⟩, ⟨2, .guard⟩], some (2, true)⟩) rfl (fun K hK => ?_) AllReadyH.nil
         go_simp
         refine (cO _).mono ?_; rintro e x3 ⟨rfl, E3⟩; have X3 : Ext W2 x3 := Ext.trans (by (with_reducible (first | assumption | exact Ext.refl _ | (apply Ext.drew; first | assumption | exact Ext.refl _)))) (grow_ext E3); clear E3
         try go_wp2_with fail
         refine hK.out _ _ ?_ (fun hHeld3 => ?_)
         · (try dsimp only); (refine mkS.out _ ?_; ((with_reducible (repeat (first | assumption | exact Ext.refl _ | apply Ext.drew | apply Ext.alloc))); done))
         clear hK K hHeld2
         try simp only [Act.put, List.setIfInBounds_toArray, List.set_cons_zero, List.set_cons_succ]
         refine wpAnyH_take (i := 12) (oi := ⟨some 30, .binOp .geq 3 (.tmp 29) (.const (.int .i64 0)) 3, 4, "region.go:105", #[⟨11, .data⟩, ⟨2, .guard⟩], some (2, true)⟩) (v := ?_) rfl (by kernel_rfl) (by kernel_rfl) (by kernel_rfl) (fun _ _ _ h => h) (Or.inl ⟨by rfl, ?_⟩) (by assumption) ?_
         rotate_left
         · intro w hSw; (try dsimp only at hSw); first | (go_simp; done) | (go_simp; with_reducible rfl)
         try simp only [Act.put, List.setIfInBounds_toArray, List.set_cons_zero, List.set_cons_succ]
         refine wpAnyH_take (i := 13) (oi := ⟨some 31, .pick (.tmp 20) (.tmp 30) (.const (.bool false)), 4, "region.go:105", #[⟨2, .data⟩, ⟨12, .data⟩], none⟩) (v := ?_) rfl (by kernel_rfl) (by kernel_rfl) (by kernel_rfl) (fun _ _ _ h => h) (Or.inl ⟨by rfl, ?_⟩) (by assumption) ?_
         rotate_left
         · intro w hSw; (try dsimp only at hSw); first | (go_simp; done) | (go_simp; with_reducible rfl)
         try simp only [Act.put, List.setIfInBounds_toArray, List.set_cons_zero, List.set_cons_succ]
         refine wpAnyH_done (by kernel_rfl) ?_ _
         by_cases hg : 0 ≤ r
         · have d1 : decide (0 ≤ r) = true := decide_eq_true hg
           have HD : Hid (decide (0 ≤ r) = true) := d1
           clear d1
           go_wp2_with fail
           go_ret
           refine ⟨?_, HXW.out _ (by first | exact X3 | exact X3.drew)⟩
           have hno : okAt l i = false := by rw [HO.out, HD.out]; rfl
           rw [← HA.out, snd_no (by rw [HL.out.2.1]; exact HJ.out.2.2) hno]; rfl
         · have d1 : decide (0 ≤ r) = false := decide_eq_false hg
           have HD : Hid (decide (0 ≤ r) = false) := d1
           have hg2 : r < 0 := by omega
           have wi : IntKind.i64.wrap (iI + 1) = iI + 1 := by have := HL.out.2.2; have := HJ.out; have := HII.out; exact iwrap (by omega) (by omega)
           have wi2 : wrap64 (iI + 1) = iI + 1 := by have := HL.out.2.2; have := HJ.out; have := HII.out; exact iwrap64 (by omega) (by omega)
           clear hg d1
           go_wp2_with fail
           go_roundw
           case rel =>
             refine ⟨i + 1, by rw [HII.out]; rfl, by have := HJ.out; omega, fun q hq => ?_, HXW.out _ (by first | exact X3 | exact X3.drew)⟩
             by_cases hqi : q = i
             · rw [hqi, HO.out, HD.out]; rfl
             · exact HQ.out.1 q (by omega)
           case measure =>
             rw [HII.out]
             have := HJ.out
             exact (by show n - (((i + 1 : Nat) : Int)).toNat < n - ((i : Nat) : Int).toNat; omega)
   · have he : i = n := by omega
     have hltI : (n : Int) ≤ (i : Int) := by omega
     have hA : Hid (true = ans) := by
       rw [← HA.out]
       exact ((snd_iff l).2 (fun q hq => HQ.out.1 q (by have := HL.out.2.1; omega))).symm
     clear he hlt hi
     go_wp2_with fail
     go_ret
     exact ⟨by rw [← hA.out]; rfl, HQ.out.2.1⟩
open Go.RowKit
theorem tw_of {p : UInt8 → Bool} {l A B : List UInt8} (e : A ++ B = l) (hA : A.all p = true) (hB : ∀ c, B.head? = some c → p c = false) : l.takeWhile p = A ∧ l.dropWhile p = B := by
 subst e
 induction A with
 | nil =>
   cases B with
   | nil => exact ⟨rfl, rfl⟩
   | cons c B =>
     have := hB c rfl
     constructor
     · show (c :: B).takeWhile p = []; rw [List.takeWhile_cons, this]; rfl
     · show (c :: B).dropWhile p = c :: B; rw [List.dropWhile_cons, this]; rfl
 | cons a A ih =>
   rw [List.all_cons, Bool.and_eq_true] at hA
   obtain ⟨i1, i2⟩ := ih hA.2
   constructor
   · show (a :: (A ++ B)).takeWhile p = a :: A; rw [List.takeWhile_cons, hA.1, i1]; rfl
   · show (a :: (A ++ B)).dropWhile p = B; rw [List.dropWhile_cons, hA.1, if_pos rfl, i2]
theorem dw_head {p : UInt8 → Bool} (l : List UInt8) (c : UInt8) (h : (l.dropWhile p).head? = some c) : p c = false := by
 have := List.head?_dropWhile_not p l
 rw [h] at this
 simpa using this
def nmR (l : List UInt8) : List UInt8 := (undl l).takeWhile upB
def rsR (l : List UInt8) : List UInt8 := (undl l).dropWhile upB
def dgR (l : List UInt8) : List UInt8 := undl (rsR l)
def okR (l : List UInt8) : Bool := rowOk (dgR l) && inB (val (dgR l)) (colN (nmR l))
theorem lt_sgn {c : UInt8} (h : upB c = true) : sgns.contains c = false := by
 rw [sgn_eq]
 unfold upB at h; simp at h
 have : (c == 36) = false := beq_eq_false_iff_ne.2 fun e => by
   rw [e] at h; have : (36 : UInt8).toNat = 36 := rfl; omega
 rw [this]; unfold dgB; simp; omega
theorem sgn_lt {c : UInt8} (h : sgns.contains c = true) : upB c = false := by
 cases g : upB c with
 | false => rfl
 | true => rw [lt_sgn g] at h; cases h
theorem par_one (l : List UInt8) (h : okP l = true) : nmR l = nmL l ∧ rsR l = rsL l ∧ okR l = true ∧ rowP l = val (dgR l) := by
 have hin := h
 unfold okP inB at hin
 simp at hin
 have hc : colN (nmL l) ≠ 0 := by unfold colP at hin; omega
 have hA := colN_letters _ hc
 have e : nmL l ++ rsL l = undl l := List.takeWhile_append_dropWhile
 have hB : ∀ c, (rsL l).head? = some c → upB c = false := fun c hc => by
   have := dw_head (p := fun c => !sgns.contains c) (undl l) c hc
   exact sgn_lt (by simpa using this)
 obtain ⟨t1, t2⟩ := tw_of e hA hB
 have n1 : nmR l = nmL l := t1
 have n2 : rsR l = rsL l := t2
 obtain ⟨o1, o2⟩ := row_in (undl (rsL l)) (by unfold rowP at hin; omega) (by unfold rowP at hin; omega)
 have n3 : dgR l = undl (rsL l) := by unfold dgR; rw [n2]
 refine ⟨n1, n2, ?_, ?_⟩
 · unfold okR
   rw [n3, n1, o1, o2]
   exact h
 · rw [n3, o2]; rfl
theorem par_two (l : List UInt8) (h : okR l = true) : okP l = true := by
 unfold okR at h
 rw [Bool.and_eq_true] at h
 obtain ⟨h1, h2⟩ := h
 have hin := h2
 unfold inB at hin
 simp at hin
 have hA : (nmR l).all (fun c => !sgns.contains c) = true := by
   rw [List.all_eq_true]
   intro c hc
   have := List.all_eq_true.1 (List.all_takeWhile (p := upB) (l := undl l)) c hc
   rw [lt_sgn this]; rfl
 have e : nmR l ++ rsR l = undl l := List.takeWhile_append_dropWhile
 have hne : dgR l ≠ [] := by
   intro k; rw [k] at hin
   have : val ([] : List UInt8) = 0 := rfl
   omega
 have hB : ∀ c, (rsR l).head? = some c → (!sgns.contains c) = false := by
   intro c hc
   rw [sgn_eq]
   by_cases g : c = 36
   · subst g; rfl
   · have hd : dlB (rsR l) = false := by unfold dlB; rw [hc]; simpa using g
     have e2 : dgR l = rsR l := by unfold dgR undl; rw [hd]; rfl
     unfold rowOk at h1
     rw [Bool.and_eq_true, Bool.and_eq_true, e2] at h1
     have := List.all_eq_true.1 h1.1.1 c (List.mem_of_mem_head? (by rw [hc]; rfl))
     rw [this]; simp
 obtain ⟨t1, t2⟩ := tw_of e hA hB
 have n1 : nmL l = nmR l := t1
 have n2 : rsL l = rsR l := t2
 have hr := row_ok (dgR l) h1 hne
 unfold okP rowP colP
 rw [n1, n2]
 show inB (rowC (dgR l)) _ = true
 rw [hr]; exact h2
theorem ok_eq (l : List UInt8) : okP l = okR l := by
 cases h : okR l with
 | true => exact par_two l h
 | false =>
   cases g : okP l with
   | false => rfl
   | true => rw [(par_one l g).2.2.1] at h; cases h
theorem prV_R (l : List UInt8) : prV l = if okR l then refD (val (dgR l)) (colN (nmR l)) (dlB (rsR l)) (dlB l) else refD 0 0 false false := by
 unfold prV
 rw [← ok_eq]
 cases g : okP l with
 | false => rfl
 | true =>
   obtain ⟨n1, n2, _, n4⟩ := par_one l g
   rw [if_pos rfl, if_pos rfl, n4, n1, n2]; rfl
open Go.RowKit
set_option maxHeartbeats 1000000
open Go.RowKit
set_option maxHeartbeats 1000000
open Go.RowKit
set_option maxHeartbeats 1000000
def Three (w : World) (x0 x1 x2 x3 y0 y1 y2 y3 : Value) (W : World) : Prop := Ext w W ∧ Blk W w.heap.size x0 x1 x2 x3 ∧ Blk W (w.heap.size + 1) y0 y1 y2 y3 ∧ ∃ z0 z1 z2 z3, Blk W (w.heap.size + 1 + 1) z0 z1 z2 z3
theorem Three.ext {w W W' : World} {x0 x1 x2 x3 y0 y1 y2 y3 : Value} (h : Three w x0 x1 x2 x3 y0 y1 y2 y3 W) (e : Ext W W') : Three w x0 x1 x2 x3 y0 y1 y2 y3 W' := by
 obtain ⟨a, b, c, z0, z1, z2, z3, d⟩ := h
 exact ⟨a.trans e, b.ext e, c.ext e, z0, z1, z2, z3, d.ext e⟩
theorem Three.drew {w W : World} {x0 x1 x2 x3 y0 y1 y2 y3 : Value} (h : Three w x0 x1 x2 x3 y0 y1 y2 y3 W) : Three w x0 x1 x2 x3 y0 y1 y2 y3 W.drew := h.ext (Ext.drew (Ext.refl _))
theorem Three.drewN {w W : World} {x0 x1 x2 x3 y0 y1 y2 y3 : Value} (h : Three w x0 x1 x2 x3 y0 y1 y2 y3 W) (n : Nat) : Three w x0 x1 x2 x3 y0 y1 y2 y3 (W.drewN n) := h.ext (Ext.drewN (Ext.refl _) n)
theorem Three.put {w W : World} {x0 x1 x2 x3 y0 y1 y2 y3 : Value} (h : Three w x0 x1 x2 x3 y0 y1 y2 y3 W) (v0 v1 v2 v3 : Value) : Three w x0 x1 x2 x3 y0 y1 y2 y3 ((((W.setCell ⟨w.heap.size + 1 + 1, 0, none⟩ v0).setCell ⟨w.heap.size + 1 + 1, 1, none⟩ v1).setCell ⟨w.heap.size + 1 + 1, 2, none⟩ v2).setCell ⟨w.heap.size + 1 + 1, 3, none⟩ v3) := by
 obtain ⟨a, b, c, z0, z1, z2, z3, d⟩ := h
 exact ⟨(((a.setCell (by simp; omega) _).setCell (by simp; omega) _).setCell (by simp; omega) _).setCell (by simp; omega) _, b.far (by omega) _ _ _ _, c.far (by omega) _ _ _ _, _, _, _, _, d.set _ _ _ _⟩
open Go.RowKit
def T.wR (t : T) (r : Rf) : T := .mk t.k t.n t.s t.e r t.q t.l
def T.wRQ (t : T) (r q : Rf) : T := .mk t.k t.n t.s t.e r q t.l
def T.wL (t : T) (l : List T) : T := .mk t.k t.n t.s t.e t.r t.q l
theorem wL_self (t : T) : t.wL t.l = t := by cases t; rfl
def mvF (dr dc : Int) (r : Rf) : Rf := (if r.2.2.1 then r.1 else wrap64 (r.1 + dr), if r.2.2.2 then r.2.1 else wrap64 (r.2.1 + dc), r.2.2.1, r.2.2.2)
def mvE (dr dc : Int) (t : T) : T := if t.k = 4 then t.wR (mvF dr dc t.r) else if t.k = 5 then t.wRQ (mvF dr dc t.r) (mvF dr dc t.q) else t
def prB (k : Int) : Bool := decide (k = 6 ∨ k = 7 ∨ k = 8)
def mpT (g : T → T) : Nat → T → T
 | 0, t => t
 | n + 1, t => g (t.wL (t.l.map (if prB t.k then mpT g n else id)))
theorem mpT_id (n : Nat) : ∀ t, mpT id n t = t := by
 induction n with
 | zero => intro t; rfl
 | succ n ih =>
   intro t
   have : (if prB t.k then mpT id n else id) = id := by
     split
     · funext x; exact ih x
     · rfl
   rw [mpT, this, List.map_id]
   exact wL_self t
open Go.RowKit
set_option maxHeartbeats 4000000
def Room (w : World) (m n : Nat) : Prop := m < w.heap.size ∧ (∀ o, o < n → (w.cell? ⟨m, o, none⟩).isSome = true) ∧ ∀ o, w.frozen? ⟨m, o, none⟩ = false
theorem Room.ext {w w' : World} {m n : Nat} (h : Room w m n) (e : Ext w w') : Room w' m n :=
 ⟨Nat.lt_of_lt_of_le h.1 e.sz, fun o ho => by rw [e.cell.1 m o h.1]; exact h.2.1 o ho, fun o => by rw [e.cell.2 m o h.1]; exact h.2.2 o⟩
theorem Room.put {w : World} {m n : Nat} (h : Room w m n) (o : Nat) (vs : List Value) : Room (w.setCells m o vs) m n := by
 refine ⟨?_, fun i hi => ?_, fun i => by rw [World.frozen?_setCells]; exact h.2.2 i⟩
 · have : ∀ (vs : List Value) (o : Nat) (w : World), (w.setCells m o vs).heap.size = w.heap.size := by
     intro vs
     induction vs with
     | nil => intro o w; rfl
     | cons v r ih => intro o w; rw [World.setCells, ih]; simp [World.setCell]
   rw [this]; exact h.1
 · have : ∀ (vs : List Value) (o : Nat) (w : World), (w.cell? ⟨m, i, none⟩).isSome = true → ((w.setCells m o vs).cell? ⟨m, i, none⟩).isSome = true := by
     intro vs
     induction vs with
     | nil => intro o w h; exact h
     | cons v r ih =>
       intro o w h
       rw [World.setCells]
       refine ih _ _ ?_
       by_cases ho : o = i
       · subst ho; rw [World.cell?_setCell_same' w _ v h]; rfl
       · rw [World.cell?_setCell_other _ _ _ _ (by simp)]; exact h
   exact this vs o w (h.2.1 i hi)
theorem setCells_size (m : Nat) : ∀ (vs : List Value) (o : Nat) (w : World), (w.setCells m o vs).heap.size = w.heap.size := by
 intro vs
 induction vs with
 | nil => intro o w; rfl
 | cons v r ih => intro o w; rw [World.setCells, ih]; simp [World.setCell]
theorem setCells_heap (m k : Nat) (hk : k ≠ m) : ∀ (vs : List Value) (o : Nat) (w : World), (w.setCells m o vs).heap[k]? = w.heap[k]? := by
 intro vs
 induction vs with
 | nil => intro o w; rfl
 | cons v r ih => intro o w; rw [World.setCells, ih]; exact Below.heap_setCell _ _ _ _ (by simpa using hk)
theorem Ext.setCells {a w : World} (h : Ext a w) {m : Nat} (hm : a.heap.size ≤ m) : ∀ (vs : List Value) (o : Nat), Ext a (w.setCells m o vs) := by
 intro vs
 induction vs generalizing w with
 | nil => intro o; exact h
 | cons v r ih => intro o; rw [World.setCells]; exact ih (h.setCell (p := ⟨m, o, none⟩) hm v) (o + 1)
theorem BlkX.setCells {w : World} {g m : Nat} {t : T} {lv : Value} (h : BlkX w g t lv) (hm : m ≠ g) : ∀ (vs : List Value) (o : Nat), BlkX (w.setCells m o vs) g t lv := by
 intro vs
 induction vs generalizing w with
 | nil => intro o; exact h
 | cons v r ih => intro o; rw [World.setCells]; exact ih (Blk13.far1 h hm o v) (o + 1)
def Laid (w : World) (m base : Nat) (ps : List (T × Value)) : Prop := (∀ (i j : Nat) (p : T × Value) (u : Value), ps[i]? = some p → (cellsT p.1 p.2)[j]? = some u → w.cell? ⟨m, i * 13 + j, none⟩ = some u) ∧ ∀ p ∈ ps, IsL w (fun k => base ≤ k ∧ k ≠ m) p.2 p.1.l
theorem Laid.nil (w : World) (m base : Nat) : Laid w m base [] := ⟨fun i j p u h => by simp at h, fun p hp => by cases hp⟩
theorem Laid.ext {w w' : World} {m base : Nat} {ps : List (T × Value)} (h : Laid w m base ps) (hm : m < w.heap.size) (e : Ext w w') : Laid w' m base ps :=
 ⟨fun i j p u h1 h2 => by rw [e.cell.1 m _ hm]; exact h.1 i j p u h1 h2, fun p hp => (h.2 p hp).ext e⟩
theorem Laid.snoc {w : World} {m base n : Nat} {ps : List (T × Value)} {x : T} {lv : Value} (h : Laid w m base ps) (hR : Room w m n) (hn : ps.length * 13 + 13 ≤ n) (hL : IsL w (fun k => base ≤ k ∧ k ≠ m) lv x.l) : Laid (w.setCells m (ps.length * 13) (cellsT x lv)) m base (ps ++ [(x, lv)]) := by
 have hk : ∀ (y : Value) (l : List T), IsL w (fun k => base ≤ k ∧ k ≠ m) y l → IsL (w.setCells m (ps.length * 13) (cellsT x lv)) (fun k => base ≤ k ∧ k ≠ m) y l := fun y l hy =>
   hy.keep (by rw [setCells_size]; exact Nat.le_refl _) (fun k hk _ => setCells_heap m k hk.2 _ _ _) (fun _ h _ => h)
 refine ⟨fun i j p u h1 h2 => ?_, fun p hp => ?_⟩
 · have hj : j < 13 := (List.getElem?_eq_some_iff.mp h2).1
   by_cases hi : i < ps.length
   · rw [List.getElem?_append_left hi] at h1
     rw [World.cell?_setCells_out m _ _ _ _ (fun _ _ => .inl (by show i * 13 + j < ps.length * 13; omega))]
     exact h.1 i j p u h1 h2
   · rw [List.getElem?_append_right (by omega)] at h1
     have hi2 : i = ps.length := by
       have := (List.getElem?_eq_some_iff.mp h1).1
       simp at this
       omega
     subst hi2
     simp at h1
     subst h1
     have hin := World.cell?_setCells_in m (cellsT x lv) (ps.length * 13) w (fun j hj => hR.2.1 _ (by have : (cellsT x lv).length = 13 := rfl; omega)) j (by exact hj)
     rw [hin]
     obtain ⟨h3, h4⟩ := List.getElem?_eq_some_iff.mp h2
     rw [← h4]
     rfl
 · rcases List.mem_append.1 hp with hp | hp
   · exact hk _ _ (h.2 p hp)
   · simp at hp; subst hp; exact hk _ _ hL
theorem Laid.isL {w : World} {m base c : Nat} {ps : List (T × Value)} (h : Laid w m base ps) (hm : m < w.heap.size) (hb : base ≤ m) (hc : ps.length ≤ c) : IsL w (base ≤ ·) (.slice (some ⟨m, 0, none⟩) ps.length c) (ps.map Prod.fst) := by
 refine .mk m 0 c ps.length _ (fun i => match ps[i]? with | some p => p.2 | none => .slice none 0 0) (by simp) hc hb hm ?_ ?_
 · intro i t j u hi hj
   rw [List.getElem?_map, Option.map_eq_some_iff] at hi
   obtain ⟨p, hp, rfl⟩ := hi
   simp only [hp] at hj
   rw [Nat.zero_add]
   exact h.1 i j p u hp hj
 · intro i t hi
   rw [List.getElem?_map, Option.map_eq_some_iff] at hi
   obtain ⟨p, hp, rfl⟩ := hi
   simp only [hp]
   exact (h.2 p (List.mem_of_getElem? hp)).mono (fun k hk _ => hk.1)
theorem run_mk (n : Nat) (hn : n ≤ 100000) (w : World) : ∃ C : Array Value, C.size = n * 13 ∧ (Instr.makeSlice 27 (.int .i64 (n : Int)) (.int .i64 (n : Int))).run Try.prog w = .ok (.slice (some ⟨w.heap.size, 0, none⟩) n n) (w.alloc (.cells C 29)) := by
 obtain ⟨i, hi, hz, h1, h2⟩ := info_x
 have h := run_make (P := Try.prog) w 27 29 i _ Try.underlying27 hi hz .i64 .i64 (n : Int) (n : Int) (by omega) (Int.le_refl _) (by rw [h2]; omega) (by omega)
 rw [h1, Int.toNat_natCast] at h
 exact ⟨_, size_madeCells _ _, h⟩
theorem Room.new {w w' : World} {n m : Nat} {C : Array Value} (hC : C.size = n) (hm : m = w.heap.size) (E : Ext (w.alloc (.cells C 29)) w') : Room w' m n := by
 subst hm
 have hs : w.heap.size < (w.alloc (.cells C 29)).heap.size := by simp
 refine Room.ext ⟨hs, fun o ho => ?_, fun o => ?_⟩ E
 · rw [cell_of_row _ _ _ _ _ (0, 0) (new_top w _)]
   simp [hC, ho]
 · exact frozen_of_row _ _ _ _ _ (new_top w _)
open Go.RowKit
def LvK (o : Rd) (k : Nat) : Rd := if k = 1 then frm o else if k = 2 then lv (lv (lv o 4) 3) 2 else if k = 3 then lv (lv o 4) 3 else if k = 4 then lv o 4 else o
theorem LvK_step (o : Rd) (k : Nat) (h1 : 1 ≤ k) (h4 : k ≤ 4) : LvK o k = lv (LvK o (k + 1)) k := by
 have hh : k = 1 ∨ k = 2 ∨ k = 3 ∨ k = 4 := by omega
 rcases hh with rfl | rfl | rfl | rfl <;> rfl
theorem LvK_top (o : Rd) (k : Nat) (h : 5 ≤ k) : LvK o k = o := by
 unfold LvK
 rw [if_neg (by omega), if_neg (by omega), if_neg (by omega), if_neg (by omega)]
theorem bnd_le4 (s : List UInt8) : bnd s ≤ 4 := by unfold bnd; repeat (first | (split; · omega) | omega)
def cl (o : Rd) (d : Nat) : Nat → Nat → T → List Tk → Rs
 | 0, _, x, ts => .ok (x, ts)
 | f + 1, k, x, ts => if (hd ts).1 = 3 ∧ k ≤ bnd (hd ts).2.2.1 then (match LvK o (bnd (hd ts).2.2.1 + 1) d ts.tail with
   | .error e => .error e
   | .ok (y, ts2) => cl o d f k (tBin (hd ts).2.2.1 x y) ts2) else .ok (x, ts)
theorem LvK_sh {n : Nat} {o : Rd} (ho : ShF n o) (k : Nat) : ShF n (LvK o k) := by
 unfold LvK
 split
 · exact frm_sh ho
 · split
   · exact lv_sh (lv_sh (lv_sh ho 4) 3) 2
   · split
     · exact lv_sh (lv_sh ho 4) 3
     · split
       · exact lv_sh ho 4
       · exact ho
theorem tk1_ok {d : Nat} (hd4 : d ≤ 40) (ts : List Tk) : tk1 d ts = .ok ts.tail := by unfold tk1; rw [if_neg (by omega)]
theorem tail_sh {ts : List Tk} (h : Nz ts) (h3 : (hd ts).1 = 3) : Nz ts.tail ∧ ts.tail.length + 1 = ts.length := h.tail (by rw [h3]; decide)
theorem lp_fuel {n : Nat} {F : Rd} (hF : ShF n F) (k d : Nat) : ∀ (f g : Nat) (x : T) (ts : List Tk), Nz ts → ts.length ≤ n → ts.length ≤ f → ts.length ≤ g → lp F k d f x ts = lp F k d g x ts := by
 intro f
 induction f with
 | zero => intro g x ts h _ h1 _; have := h.pos; omega
 | succ f ih =>
   intro g x ts h hn h1 h2
   cases g with
   | zero => have := h.pos; omega
   | succ g =>
     unfold lp
     split
     · rename_i hk
       cases ht : tk1 d ts with
       | error e => rfl
       | ok ts1 =>
         have s1 := tk1_sh h (by rw [hk.1]; decide) ht
         show (match F d ts1 with | .error e => (.error e : Rs) | .ok (y, ts2) => lp F k d f (tBin (hd ts).2.2.1 x y) ts2) = (match F d ts1 with | .error e => (.error e : Rs) | .ok (y, ts2) => lp F k d g (tBin (hd ts).2.2.1 x y) ts2)
         cases hr : F d ts1 with
         | error e => rfl
         | ok p =>
           obtain ⟨y, ts2⟩ := p
           have s2 := hF d ts1 s1.1 (by have := s1.2; omega) y ts2 hr
           have a1 := s1.2
           have a2 := s2.2
           exact ih g _ ts2 s2.1 (by omega) (by omega) (by omega)
     · rfl
theorem cl_fuel {n : Nat} {o : Rd} (ho : ShF n o) (k d : Nat) : ∀ (f g : Nat) (x : T) (ts : List Tk), Nz ts → ts.length ≤ n → ts.length ≤ f → ts.length ≤ g → cl o d f k x ts = cl o d g k x ts := by
 intro f
 induction f with
 | zero => intro g x ts h _ h1 _; have := h.pos; omega
 | succ f ih =>
   intro g x ts h hn h1 h2
   cases g with
   | zero => have := h.pos; omega
   | succ g =>
     unfold cl
     split
     · rename_i hk
       have s1 := tail_sh h hk.1
       cases hr : LvK o (bnd (hd ts).2.2.1 + 1) d ts.tail with
       | error e => rfl
       | ok p =>
         obtain ⟨y, ts2⟩ := p
         have s2 := LvK_sh ho _ d ts.tail s1.1 (by omega) y ts2 hr
         have a2 := s2.2
         exact ih g _ ts2 s2.1 (by omega) (by omega) (by omega)
     · rfl
theorem cl_stop {n : Nat} {o : Rd} (ho : ShF n o) (k d : Nat) : ∀ (f : Nat) (x y : T) (ts ts' : List Tk), Nz ts → ts.length ≤ n → ts.length ≤ f → cl o d f k x ts = .ok (y, ts') → ¬ ((hd ts').1 = 3 ∧ k ≤ bnd (hd ts').2.2.1) := by
 intro f
 induction f with
 | zero => intro x y ts ts' h _ h1 _; have := h.pos; omega
 | succ f ih =>
   intro x y ts ts' h hn h1 e
   unfold cl at e
   split at e
   · rename_i hk
     have s1 := tail_sh h hk.1
     split at e
     · cases e
     · rename_i z ts2 hr
       have s2 := LvK_sh ho _ d ts.tail s1.1 (by omega) z ts2 hr
       have a2 := s2.2
       exact ih _ _ ts2 ts' s2.1 (by omega) (by omega) e
   · rename_i hk
     cases e; exact hk
def thenR (r : Rs) (g : T → List Tk → Rs) : Rs := match r with
 | .error e => .error e
 | .ok (x, ts) => g x ts
def Clm (o : Rd) (n d k : Nat) : Prop := ∀ ts, Nz ts → ts.length ≤ n → LvK o k d ts = thenR (o d ts) (fun x ts1 => cl o d ts1.length k x ts1)
theorem clm_bind {n d k : Nat} {o : Rd} (ho : ShF n o) (hd4 : d ≤ 40) (hC : Clm o n d (k + 1)) : ∀ (f : Nat) (x : T) (ts : List Tk), Nz ts → ts.length ≤ n → ts.length ≤ f →
   thenR (cl o d f (k + 1) x ts) (fun x' ts' => lp (LvK o (k + 1)) k d ts'.length x' ts') = cl o d f k x ts := by
 intro f
 induction f with
 | zero => intro x ts h _ h1 ; have := h.pos; omega
 | succ f ih =>
   intro x ts h hn hf
   by_cases h3 : (hd ts).1 = 3
   · have s1 := tail_sh h h3
     by_cases hb : k + 1 ≤ bnd (hd ts).2.2.1
     · rw [cl, cl, if_pos ⟨h3, hb⟩, if_pos ⟨h3, by omega⟩]
       cases hr : LvK o (bnd (hd ts).2.2.1 + 1) d ts.tail with
       | error e => rfl
       | ok p =>
         obtain ⟨y, ts2⟩ := p
         have s2 := LvK_sh ho _ d ts.tail s1.1 (by omega) y ts2 hr
         have a2 := s2.2
         exact ih _ ts2 s2.1 (by omega) (by omega)
     · by_cases hk : bnd (hd ts).2.2.1 = k
       · rw [cl, cl, if_neg (by rintro ⟨_, h⟩; omega), if_pos ⟨h3, by omega⟩]
         show lp (LvK o (k + 1)) k d ts.length x ts = _
         obtain ⟨g, hg⟩ : ∃ g, ts.length = g + 1 := ⟨ts.length - 1, by omega⟩
         rw [hg, lp, if_pos ⟨h3, hk⟩, tk1_ok hd4, hk]
         show (match LvK o (k + 1) d ts.tail with | .error e => (.error e : Rs) | .ok (y, ts2) => lp (LvK o (k + 1)) k d g (tBin (hd ts).2.2.1 x y) ts2) = _
         cases hr : LvK o (k + 1) d ts.tail with
         | error e => rfl
         | ok p =>
           obtain ⟨y, ts2⟩ := p
           have s2 := LvK_sh ho _ d ts.tail s1.1 (by omega) y ts2 hr
           have a2 := s2.2
           show lp (LvK o (k + 1)) k d g (tBin (hd ts).2.2.1 x y) ts2 = cl o d f k (tBin (hd ts).2.2.1 x y) ts2
           rw [← ih _ ts2 s2.1 (by omega) (by omega)]
           have hstop : ¬ ((hd ts2).1 = 3 ∧ k + 1 ≤ bnd (hd ts2).2.2.1) := by
             rw [hC ts.tail s1.1 (by omega)] at hr
             cases ho1 : o d ts.tail with
             | error e => rw [ho1] at hr; cases hr
             | ok q =>
               obtain ⟨z, ts3⟩ := q
               rw [ho1] at hr
               have s3 := ho d ts.tail s1.1 (by omega) z ts3 ho1
               have a3 := s3.2
               exact cl_stop ho (k + 1) d _ _ _ ts3 ts2 s3.1 (by omega) (Nat.le_refl _) hr
           have hcl : cl o d f (k + 1) (tBin (hd ts).2.2.1 x y) ts2 = .ok (tBin (hd ts).2.2.1 x y, ts2) := by
             cases f with
             | zero => rfl
             | succ f => rw [cl, if_neg hstop]
           rw [hcl]
           exact lp_fuel (LvK_sh ho _) k d g ts2.length _ ts2 s2.1 (by omega) (by omega) (Nat.le_refl _)
       · rw [cl, cl, if_neg (by rintro ⟨_, h⟩; omega), if_neg (by rintro ⟨_, h⟩; omega)]
         show lp (LvK o (k + 1)) k d ts.length x ts = _
         obtain ⟨g, hg⟩ : ∃ g, ts.length = g + 1 := ⟨ts.length - 1, by omega⟩
         rw [hg, lp, if_neg (by rintro ⟨_, h⟩; exact hk h)]
   · rw [cl, cl, if_neg (by rintro ⟨h, _⟩; exact h3 h), if_neg (by rintro ⟨h, _⟩; exact h3 h)]
     show lp (LvK o (k + 1)) k d ts.length x ts = _
     obtain ⟨g, hg⟩ : ∃ g, ts.length = g + 1 := ⟨ts.length - 1, by have := h.pos; omega⟩
     rw [hg, lp, if_neg (by rintro ⟨h, _⟩; exact h3 h)]
theorem clm5 (o : Rd) (n d : Nat) (ho : ShF n o) : Clm o n d 5 := by
 intro ts h hn
 rw [LvK_top o 5 (by omega)]
 cases ho1 : o d ts with
 | error e => rfl
 | ok q =>
   obtain ⟨z, ts3⟩ := q
   have s3 := ho d ts h hn z ts3 ho1
   show _ = cl o d ts3.length 5 z ts3
   obtain ⟨g, hg⟩ : ∃ g, ts3.length = g + 1 := ⟨ts3.length - 1, by have := s3.1.pos; omega⟩
   rw [hg, cl, if_neg (by rintro ⟨_, h⟩; have := bnd_le4 (hd ts3).2.2.1; omega)]
theorem clm_down {n d k : Nat} {o : Rd} (ho : ShF n o) (hd4 : d ≤ 40) (h1 : 1 ≤ k) (h4 : k ≤ 4) (hC : Clm o n d (k + 1)) : Clm o n d k := by
 intro ts h hn
 rw [LvK_step o k h1 h4]
 unfold lv
 rw [hC ts h hn]
 cases ho1 : o d ts with
 | error e => rfl
 | ok q =>
   obtain ⟨z, ts3⟩ := q
   have s3 := ho d ts h hn z ts3 ho1
   have a3 := s3.2
   show (match cl o d ts3.length (k + 1) z ts3 with | .error e => (.error e : Rs) | .ok (x, ts1) => lp (LvK o (k + 1)) k d ts1.length x ts1) = cl o d ts3.length k z ts3
   exact clm_bind ho hd4 hC ts3.length z ts3 s3.1 (by omega) (Nat.le_refl _)
theorem clm_all {n d : Nat} {o : Rd} (ho : ShF n o) (hd4 : d ≤ 40) (k : Nat) (h1 : 1 ≤ k) (h5 : k ≤ 5) : Clm o n d k := by
 have c5 := clm5 o n d ho
 have c4 := clm_down ho hd4 (by decide) (by decide) c5
 have c3 := clm_down ho hd4 (by decide) (by decide) c4
 have c2 := clm_down ho hd4 (by decide) (by decide) c3
 have c1 := clm_down ho hd4 (by decide) (by decide) c2
 have hh : k = 1 ∨ k = 2 ∨ k = 3 ∨ k = 4 ∨ k = 5 := by omega
 rcases hh with rfl | rfl | rfl | rfl | rfl <;> assumption
theorem O_deep (n d : Nat) (h : 40 < d) (ts : List Tk) : ∃ e, O n d ts = .error e := by
 have ht : ∀ ts, tk1 d ts = .error (ft ts true) := fun ts => if_pos h
 cases n with
 | zero => exact ⟨_, rfl⟩
 | succ n =>
   show ∃ e, opn (frm (O n)) (O n) d ts = .error e
   unfold opn
   split
   · rw [ht]; exact ⟨_, rfl⟩
   · unfold smp one
     rw [ht]
     split
     · exact ⟨_, rfl⟩
     · split
       · exact ⟨_, rfl⟩
       · split
         · exact ⟨_, rfl⟩
         · split
           · unfold wrd one
             rw [ht]
             split
             · exact ⟨_, rfl⟩
             · split
               · exact ⟨_, rfl⟩
               · split
                 · exact ⟨_, rfl⟩
                 · have hr : ∃ e, refr d ts = .error e := by
                     unfold refr
                     rw [ht]
                     split <;> exact ⟨_, rfl⟩
                   obtain ⟨e, he⟩ := hr
                   rw [he]; exact ⟨_, rfl⟩
           · have hr : ∃ e, pass1 [40] d ts = .error e := by
               unfold pass1
               rw [ht]
               split <;> exact ⟨_, rfl⟩
             obtain ⟨e, he⟩ := hr
             unfold brk
             rw [he]; exact ⟨_, rfl⟩
theorem LvK_deep (n d k : Nat) (h : 40 < d) (ts : List Tk) : ∃ e, LvK (O n) k d ts = .error e := by
 have one : ∀ (F : Rd) (j : Nat), (∀ ts, ∃ e, F d ts = .error e) → ∀ ts, ∃ e, lv F j d ts = .error e := by
   intro F j hF ts
   obtain ⟨e, he⟩ := hF ts
   exact ⟨e, by unfold lv; rw [he]⟩
 have o0 := O_deep n d h
 unfold LvK
 split
 · exact one _ _ (one _ _ (one _ _ (one _ _ o0))) ts
 · split
   · exact one _ _ (one _ _ (one _ _ o0)) ts
   · split
     · exact one _ _ (one _ _ o0) ts
     · split
       · exact one _ _ o0 ts
       · exact o0 ts
end Go.Proofs.Ytjhmbkdkjgjoaaa
