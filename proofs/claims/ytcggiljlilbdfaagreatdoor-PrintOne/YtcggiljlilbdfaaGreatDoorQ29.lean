/-
 What is answered of a formula in brackets, of a call of two formulas, of a formula with more blanks between its words. Plain mathematics: no program in sight.
 How long words are, and of which kinds. Plain mathematics: no program in sight.
 The contract of Formula.
 Which trees are well made, as far as lives asks; lives.
-/
import Derived.Test.YtcggiljlilbdfaaGreatDoorQ28
namespace Go.Proofs.YtcggiljlilbdfaaGreatDoor
open Go.RowKit

theorem cd_ne (b : Bool) : cd b ≠ 0 := by cases b <;> decide

open Go.RowKit
set_option maxHeartbeats 6000000

theorem txt_len : ∀ (l : List UInt8) (x : List UInt8 × Nat), txt l = some x → x.1.length ≤ x.2
 | [], x, h => by simp [txt] at h
 | [c], x, h => by
   unfold txt at h
   split at h
   · cases h; simp
   · cases h
 | c :: d :: r, x, h => by
   unfold txt at h
   split at h
   · split at h
     · rw [Option.map_eq_some_iff] at h
       obtain ⟨y, hy, rfl⟩ := h
       have := txt_len r y hy
       simp; omega
     · cases h; simp
   · rw [Option.map_eq_some_iff] at h
     obtain ⟨y, hy, rfl⟩ := h
     have := txt_len (d :: r) y hy
     simp; omega
theorem nxt_len {l : List UInt8} {x : Wd} (h : nxt l = .ok x) : x.2.1.length ≤ x.2.2.2.2 := by
 cases l with
 | nil => cases h
 | cons c l =>
   rw [nxt_cons] at h
   split at h
   · unfold numR at h
     split at h
     · cases h
     · split at h
       · cases h
       · cases h; exact Nat.zero_le _
   · split at h
     · unfold txtR at h
       split at h
       · cases h
       · rename_i y hy
         cases h
         have := txt_len _ _ hy
         show y.1.length ≤ y.2 + 1
         omega
     · split at h
       · unfold wdR at h
         cases h
         show (List.take _ _).length ≤ _
         rw [List.length_take]; exact Nat.min_le_left _ _
       · split at h
         · unfold errR at h
           split at h
           · cases h
           · cases h; exact Nat.zero_le _
         · unfold sgR at h
           split at h
           · cases h
           · cases h; exact Nat.le_refl _
theorem W_len (n : Nat) : ∀ (l : List UInt8) (p : Nat) (ts : List Tk), l.length ≤ n → W p l = .ok ts → ∀ t ∈ ts, t.2.2.1.length ≤ l.length := by
 induction n with
 | zero =>
   intro l p ts hl h
   have : l = [] := List.eq_nil_of_length_eq_zero (by omega)
   subst this
   rw [W_nil] at h
   cases h
   intro t ht; simp at ht; subst ht; simp [endT]
 | succ n ih =>
   intro l p ts hl h
   cases l with
   | nil =>
     rw [W_nil] at h
     cases h
     intro t ht; simp at ht; subst ht; simp [endT]
   | cons c r =>
     by_cases hc : c = 32
     · subst hc
       rw [W_blank] at h
       intro t ht
       have := ih r (p + 1) ts (by simpa using hl) h t ht
       simp; omega
     · rw [W_cons p c r hc] at h
       cases hx : nxt (c :: r) with
       | error e => rw [hx] at h; cases h
       | ok x =>
         rw [hx] at h
         simp only [] at h
         obtain ⟨us, hu, rfl⟩ := map_ok h
         have hm := nxt_pos hx
         simp only [List.length_cons] at hm
         intro t ht
         rcases List.mem_cons.1 ht with rfl | ht
         · have := nxt_len hx
           show x.2.1.length ≤ _
           simp; omega
         · have := ih ((c :: r).drop x.2.2.2.2) (p + x.2.2.2.2) us (by simp at hl ⊢; omega) hu t ht
           simp at this ⊢; omega
theorem nxt_kd {l : List UInt8} {x : Wd} (h : nxt l = .ok x) : 0 ≤ x.1 ∧ x.1 ≤ 4 := by
 cases l with
 | nil => cases h
 | cons c l =>
   rw [nxt_cons] at h
   split at h
   · unfold numR at h
     split at h
     · cases h
     · split at h
       · cases h
       · cases h; exact ⟨by show (0 : Int) ≤ 0; decide, by show (0 : Int) ≤ 4; decide⟩
   · split at h
     · unfold txtR at h
       split at h
       · cases h
       · cases h; exact ⟨by show (0 : Int) ≤ 1; decide, by show (1 : Int) ≤ 4; decide⟩
     · split at h
       · unfold wdR at h
         cases h; exact ⟨by show (0 : Int) ≤ 2; decide, by show (2 : Int) ≤ 4; decide⟩
       · split at h
         · unfold errR at h
           split at h
           · cases h
           · cases h; exact ⟨by show (0 : Int) ≤ 4; decide, by show (4 : Int) ≤ 4; decide⟩
         · unfold sgR at h
           split at h
           · cases h
           · cases h; exact ⟨by show (0 : Int) ≤ 3; decide, by show (3 : Int) ≤ 4; decide⟩
theorem W_kd (n : Nat) : ∀ (l : List UInt8) (p : Nat) (ts : List Tk), l.length ≤ n → W p l = .ok ts → ∀ t ∈ ts, 0 ≤ t.1 ∧ t.1 ≤ 5 ∧ (t.1 = 5 → t.2.2.1 = []) := by
 have h5 : ∀ q, 0 ≤ (endT q).1 ∧ (endT q).1 ≤ 5 ∧ ((endT q).1 = 5 → (endT q).2.2.1 = []) := fun q => ⟨by show (0 : Int) ≤ 5; decide, by show (5 : Int) ≤ 5; decide, fun _ => rfl⟩
 induction n with
 | zero =>
   intro l p ts hl h
   have : l = [] := List.eq_nil_of_length_eq_zero (by omega)
   subst this
   rw [W_nil] at h
   cases h
   intro t ht; simp at ht; subst ht; exact h5 _
 | succ n ih =>
   intro l p ts hl h
   cases l with
   | nil =>
     rw [W_nil] at h
     cases h
     intro t ht; simp at ht; subst ht; exact h5 _
   | cons c r =>
     by_cases hc : c = 32
     · subst hc
       rw [W_blank] at h
       exact ih r (p + 1) ts (by simpa using hl) h
     · rw [W_cons p c r hc] at h
       cases hx : nxt (c :: r) with
       | error e => rw [hx] at h; cases h
       | ok x =>
         rw [hx] at h
         simp only [] at h
         obtain ⟨us, hu, rfl⟩ := map_ok h
         have hm := nxt_pos hx
         simp only [List.length_cons] at hm
         intro t ht
         rcases List.mem_cons.1 ht with rfl | ht
         · have := nxt_kd hx
           show 0 ≤ x.1 ∧ x.1 ≤ 5 ∧ (x.1 = 5 → x.2.1 = [])
           exact ⟨this.1, by omega, fun h => by omega⟩
         · exact ih ((c :: r).drop x.2.2.2.2) (p + x.2.2.2.2) us (by simp at hl ⊢; omega) hu t ht

open Go.RowKit
set_option maxHeartbeats 6000000

/-- What Formula answers. -/
def FormQ (w : World) (l : List UInt8) (e : Ending) (w' : World) : Prop := ∃ lv, e = .returned (.tuple #[aggX (parR l).1 lv, .int .i64 (parR l).2.1, .int .i64 (parR l).2.2]) ∧ IsL w' (w.heap.size ≤ ·) lv (parR l).1.l ∧ Ext w w'
set_option maxRecDepth 100000 in
theorem pformula_any (s : ByteArray) (w : World) (hs : s.size ≤ maxLen) (hT7 : Tab7 w) (hT : Tab w) : Calls Tryz.prog 8 #[.string s] w (FormQ w s.data.toList) := by
 have HT : Hid (Tab w) := hT
 have c1 := words_any s (w.alloc (.cells #[.int .i64 0, .int .i64 0, .string ⟨#[]⟩, .int .i64 0, .int .i64 0, .int .i64 0, .bool false, .bool false, .int .i64 0, .int .i64 0, .bool false, .bool false, .slice none 0 0] 29)) hs (hT7.ext ((Ext.refl _).alloc _))
 obtain ⟨l, hl⟩ : ∃ l, s.data.toList = l := ⟨_, rfl⟩
 rw [hl] at c1 ⊢
 clear hl hs hT7 hT
 by_cases h0 : (lexR l).2.2 = 0
 · obtain ⟨ts, hl300, hW, hlex⟩ := lexR_cases l |>.resolve_right (by rintro ⟨p, c, h1, h2, _⟩; rw [h1] at h0; simp only [] at h0; omega)
   have HPR : Hid (parR l = prs ts) := by show _ = _; unfold parR; rw [if_pos h0, hlex]
   have HTS : Hid (Nz ts ∧ (∀ t ∈ ts, t.2.2.1.length ≤ 300) ∧ ts.length ≤ 400) := ⟨W_nz hW, fun t ht => Nat.le_trans (W_len l.length l 0 ts (Nat.le_refl _) hW t ht) hl300, by have := (W_count l.length l 0 ts (Nat.le_refl _) hW).1; omega⟩
   have C1 : Calls Tryz.prog 15 #[.string s] (w.alloc (.cells #[.int .i64 0, .int .i64 0, .string ⟨#[]⟩, .int .i64 0, .int .i64 0, .int .i64 0, .bool false, .bool false, .int .i64 0, .int .i64 0, .bool false, .bool false, .slice none 0 0] 29)) fun e w' => ∃ v, e = .returned (.tuple #[v, .int .i64 0, .int .i64 0]) ∧ RdT w' v ts ∧ Ext (w.alloc (.cells #[.int .i64 0, .int .i64 0, .string ⟨#[]⟩, .int .i64 0, .int .i64 0, .int .i64 0, .bool false, .bool false, .int .i64 0, .int .i64 0, .bool false, .bool false, .slice none 0 0] 29)) w' := by
     unfold WordsQ at c1
     rw [hlex] at c1
     exact c1
   clear c1 hl300 hW hlex h0
   go_enter Tryz.func8, Tryz.ntmps8
   go_wp2_with fail
   refine C1.mono ?_
   rintro e w1 ⟨v, rfl, hR, E1⟩
   have HR1 : Hid (RdT w1 v ts ∧ Ext (w.alloc (.cells #[.int .i64 0, .int .i64 0, .string ⟨#[]⟩, .int .i64 0, .int .i64 0, .int .i64 0, .bool false, .bool false, .int .i64 0, .int .i64 0, .bool false, .bool false, .slice none 0 0] 29)) w1) := ⟨hR, E1⟩
   clear C1 hR E1
   go_wp2_with fail
   refine (pread_any v ts w1 HR1.out.1 HTS.out.1 HTS.out.2.1 HTS.out.2.2 (HT.out.ext (((Ext.refl w).alloc _).trans HR1.out.2))).mono ?_
   rintro e w2 ⟨lv, rfl, hL, E2⟩
   obtain ⟨pp, cl, hlv, hcl⟩ := hL.form
   rw [← HPR.out] at hL hlv hcl ⊢
   obtain ⟨t, ht⟩ : ∃ t, (parR l).1 = t := ⟨_, rfl⟩
   obtain ⟨pa, hpa⟩ : ∃ pa, (parR l).2.1 = pa := ⟨_, rfl⟩
   obtain ⟨pe, hpe⟩ : ∃ pe, (parR l).2.2 = pe := ⟨_, rfl⟩
   have HPP : Hid ((parR l).1 = t ∧ (parR l).2.1 = pa ∧ (parR l).2.2 = pe) := ⟨ht, hpa, hpe⟩
   rw [ht] at hL hlv
   rw [ht, hpa, hpe]
   obtain ⟨ln, hln⟩ : ∃ ln, t.l.length = ln := ⟨_, rfl⟩
   rw [hln] at hlv
   subst hlv
   have hE1 : Ext (w.alloc (.cells #[.int .i64 0, .int .i64 0, .string ⟨#[]⟩, .int .i64 0, .int .i64 0, .int .i64 0, .bool false, .bool false, .int .i64 0, .int .i64 0, .bool false, .bool false, .slice none 0 0] 29)) w2 := HR1.out.2.trans E2
   have hw2 : w.heap.size + 1 ≤ w2.heap.size := by have := hE1.sz; simp at this; omega
   have HB : Hid (BlkX w2 w.heap.size tz (.slice none 0 0) ∧ Ext w w2) := ⟨BlkX.top rfl hE1, ((Ext.refl w).alloc _).trans hE1⟩
   have HL : Hid (IsL w2 (w.heap.size + 1 ≤ ·) (.slice pp ln cl) t.l) := hL.mono (fun k hk _ => by have := HR1.out.2.sz; simp at this; omega)
   clear hL E2 hcl ht hpa hpe hln hE1
   unfold aggX
   go_wp2_with fail
   have HF : Hid (BlkX ((w2.alloc (.cells #[.int .i64 t.k, .int .i64 t.n, .string (bs t.s), .int .i64 t.e, .int .i64 t.r.1, .int .i64 t.r.2.1, .bool t.r.2.2.1, .bool t.r.2.2.2, .int .i64 t.q.1, .int .i64 t.q.2.1, .bool t.q.2.2.1, .bool t.q.2.2.2, .slice pp ln cl] 29)).alloc (.cells #[.int .i64 pa, .int .i64 pe] 50)) w2.heap.size t (.slice pp ln cl) ∧ Blk2 ((w2.alloc (.cells #[.int .i64 t.k, .int .i64 t.n, .string (bs t.s), .int .i64 t.e, .int .i64 t.r.1, .int .i64 t.r.2.1, .bool t.r.2.2.1, .bool t.r.2.2.2, .int .i64 t.q.1, .int .i64 t.q.2.1, .bool t.q.2.2.1, .bool t.q.2.2.2, .slice pp ln cl] 29)).alloc (.cells #[.int .i64 pa, .int .i64 pe] 50)) (w2.heap.size + 1) (.int .i64 pa) (.int .i64 pe) ∧ BlkX ((w2.alloc (.cells #[.int .i64 t.k, .int .i64 t.n, .string (bs t.s), .int .i64 t.e, .int .i64 t.r.1, .int .i64 t.r.2.1, .bool t.r.2.2.1, .bool t.r.2.2.2, .int .i64 t.q.1, .int .i64 t.q.2.1, .bool t.q.2.2.1, .bool t.q.2.2.2, .slice pp ln cl] 29)).alloc (.cells #[.int .i64 pa, .int .i64 pe] 50)) w.heap.size tz (.slice none 0 0) ∧ IsL ((w2.alloc (.cells #[.int .i64 t.k, .int .i64 t.n, .string (bs t.s), .int .i64 t.e, .int .i64 t.r.1, .int .i64 t.r.2.1, .bool t.r.2.2.1, .bool t.r.2.2.2, .int .i64 t.q.1, .int .i64 t.q.2.1, .bool t.q.2.2.1, .bool t.q.2.2.2, .slice pp ln cl] 29)).alloc (.cells #[.int .i64 pa, .int .i64 pe] 50)) (w.heap.size + 1 ≤ ·) (.slice pp ln cl) t.l ∧ Ext w ((w2.alloc (.cells #[.int .i64 t.k, .int .i64 t.n, .string (bs t.s), .int .i64 t.e, .int .i64 t.r.1, .int .i64 t.r.2.1, .bool t.r.2.2.1, .bool t.r.2.2.2, .int .i64 t.q.1, .int .i64 t.q.2.1, .bool t.q.2.2.1, .bool t.q.2.2.2, .slice pp ln cl] 29)).alloc (.cells #[.int .i64 pa, .int .i64 pe] 50))) := ⟨blk13_top rfl ((Ext.refl _).alloc _), blk2_top (by simp) (Ext.refl _), HB.out.1.ext (((Ext.refl _).alloc _).alloc _), HL.out.ext (((Ext.refl _).alloc _).alloc _), (HB.out.2.alloc _).alloc _⟩
   generalize (w2.alloc (.cells #[.int .i64 t.k, .int .i64 t.n, .string (bs t.s), .int .i64 t.e, .int .i64 t.r.1, .int .i64 t.r.2.1, .bool t.r.2.2.1, .bool t.r.2.2.2, .int .i64 t.q.1, .int .i64 t.q.2.1, .bool t.q.2.2.1, .bool t.q.2.2.2, .slice pp ln cl] 29)).alloc (.cells #[.int .i64 pa, .int .i64 pe] 50) = W3 at HF ⊢
   have mkS : Hid (∀ W, ExtB w.heap.size W3 W → (W.cell? ⟨w2.heap.size, 0, none⟩ = some (.int .i64 t.k) ∧ W.cell? ⟨w2.heap.size, 1, none⟩ = some (.int .i64 t.n) ∧ W.cell? ⟨w2.heap.size, 2, none⟩ = some (.string (bs t.s)) ∧ W.cell? ⟨w2.heap.size, 3, none⟩ = some (.int .i64 t.e) ∧ W.cell? ⟨w2.heap.size, 4, none⟩ = some (.int .i64 t.r.1) ∧ W.cell? ⟨w2.heap.size, 5, none⟩ = some (.int .i64 t.r.2.1) ∧ W.cell? ⟨w2.heap.size, 6, none⟩ = some (.bool t.r.2.2.1) ∧ W.cell? ⟨w2.heap.size, 7, none⟩ = some (.bool t.r.2.2.2) ∧ W.cell? ⟨w2.heap.size, 8, none⟩ = some (.int .i64 t.q.1) ∧ W.cell? ⟨w2.heap.size, 9, none⟩ = some (.int .i64 t.q.2.1) ∧ W.cell? ⟨w2.heap.size, 10, none⟩ = some (.bool t.q.2.2.1) ∧ W.cell? ⟨w2.heap.size, 11, none⟩ = some (.bool t.q.2.2.2) ∧ W.cell? ⟨w2.heap.size, 12, none⟩ = some (.slice pp ln cl) ∧ W.cell? ⟨w2.heap.size + 1, 0, none⟩ = some (.int .i64 pa) ∧ W.cell? ⟨w2.heap.size + 1, 1, none⟩ = some (.int .i64 pe)) ∧ ExtB w.heap.size W3 W) := by
     intro W e
     have y := (HF.out.1.extB e (by omega)).2.1
     obtain ⟨u0, ⟨u1, u2⟩, _⟩ := HF.out.2.1
     exact ⟨⟨y.1, y.2.1, y.2.2.1, y.2.2.2.1, y.2.2.2.2.1, y.2.2.2.2.2.1, y.2.2.2.2.2.2.1, y.2.2.2.2.2.2.2.1, y.2.2.2.2.2.2.2.2.1, y.2.2.2.2.2.2.2.2.2.1, y.2.2.2.2.2.2.2.2.2.2.1, y.2.2.2.2.2.2.2.2.2.2.2.1, y.2.2.2.2.2.2.2.2.2.2.2.2, ((e.cell u0 (by omega) 0).1).trans u1, ((e.cell u0 (by omega) 1).1).trans u2⟩, e⟩
   have U1 := HF.out.2.2.1
   obtain ⟨qc, ⟨lc0, lc1, lc2, lc3, lc4, lc5, lc6, lc7, lc8, lc9, lc10, lc11, lc12⟩, gc0, gc1, gc2, gc3, gc4, gc5, gc6, gc7, gc8, gc9, gc10, gc11, gc12⟩ := U1
   have hE3 : ExtB w.heap.size W3 W3 := ExtB.refl _ _
   go_region_held3 (fun W => (W.cell? ⟨w2.heap.size, 0, none⟩ = some (.int .i64 t.k) ∧ W.cell? ⟨w2.heap.size, 1, none⟩ = some (.int .i64 t.n) ∧ W.cell? ⟨w2.heap.size, 2, none⟩ = some (.string (bs t.s)) ∧ W.cell? ⟨w2.heap.size, 3, none⟩ = some (.int .i64 t.e) ∧ W.cell? ⟨w2.heap.size, 4, none⟩ = some (.int .i64 t.r.1) ∧ W.cell? ⟨w2.heap.size, 5, none⟩ = some (.int .i64 t.r.2.1) ∧ W.cell? ⟨w2.heap.size, 6, none⟩ = some (.bool t.r.2.2.1) ∧ W.cell? ⟨w2.heap.size, 7, none⟩ = some (.bool t.r.2.2.2) ∧ W.cell? ⟨w2.heap.size, 8, none⟩ = some (.int .i64 t.q.1) ∧ W.cell? ⟨w2.heap.size, 9, none⟩ = some (.int .i64 t.q.2.1) ∧ W.cell? ⟨w2.heap.size, 10, none⟩ = some (.bool t.q.2.2.1) ∧ W.cell? ⟨w2.heap.size, 11, none⟩ = some (.bool t.q.2.2.2) ∧ W.cell? ⟨w2.heap.size, 12, none⟩ = some (.slice pp ln cl) ∧ W.cell? ⟨w2.heap.size + 1, 0, none⟩ = some (.int .i64 pa) ∧ W.cell? ⟨w2.heap.size + 1, 1, none⟩ = some (.int .i64 pe)) ∧ ExtB w.heap.size W3 W)
     ((refine mkS.out _ ?_; with_reducible (repeat (first | assumption | apply ExtB.drew | (refine ExtB.set ?_ (by exact Or.inl rfl) _))); done))
     (fail)
   go_wp2_with fail
   rw [show (((((((((((((W3.setCell ⟨w.heap.size, 0, none⟩ (.int .i64 t.k)).setCell ⟨w.heap.size, 1, none⟩ (.int .i64 t.n)).setCell ⟨w.heap.size, 2, none⟩ (.string (bs t.s))).setCell ⟨w.heap.size, 3, none⟩ (.int .i64 t.e)).setCell ⟨w.heap.size, 4, none⟩ (.int .i64 t.r.1)).setCell ⟨w.heap.size, 5, none⟩ (.int .i64 t.r.2.1)).setCell ⟨w.heap.size, 6, none⟩ (.bool t.r.2.2.1)).setCell ⟨w.heap.size, 7, none⟩ (.bool t.r.2.2.2)).setCell ⟨w.heap.size, 8, none⟩ (.int .i64 t.q.1)).setCell ⟨w.heap.size, 9, none⟩ (.int .i64 t.q.2.1)).setCell ⟨w.heap.size, 10, none⟩ (.bool t.q.2.2.1)).setCell ⟨w.heap.size, 11, none⟩ (.bool t.q.2.2.2)).setCell ⟨w.heap.size, 12, none⟩ (.slice pp ln cl)) = putX W3 w.heap.size t (.slice pp ln cl) from rfl]
   have HB4 := HF.out.2.2.1.put t (.slice pp ln cl)
   have HE4 : Ext w (putX W3 w.heap.size t (.slice pp ln cl)) := putX_E HF.out.2.2.2.2 (Nat.le_refl _) _ _
   have HL4 : IsL (putX W3 w.heap.size t (.slice pp ln cl)) (w.heap.size + 1 ≤ ·) (.slice pp ln cl) t.l := putX_L (g := w.heap.size) (t := t) (lv := .slice pp ln cl) HF.out.2.2.2.1 (fun k hk => by have hk2 : w.heap.size + 1 ≤ k := hk; omega)
   generalize putX W3 w.heap.size t (.slice pp ln cl) = W4 at HB4 HE4 HL4 ⊢
   obtain ⟨z, ⟨k0, k1, k2, k3, k4, k5, k6, k7, k8, k9, k10, k11, k12⟩, ff⟩ := HB4
   refine bodyPost_ret (v := .tuple #[aggX t (.slice pp ln cl), .int .i64 pa, .int .i64 pe]) (by simp [results, Tryz.results8, go_sem, k0, k1, k2, k3, k4, k5, k6, k7, k8, k9, k10, k11, k12, aggX]) rfl ?_
   unfold FormQ
   rw [HPP.out.1, HPP.out.2.1, HPP.out.2.2]
   exact ⟨_, rfl, (HL4.mono (fun k hk _ => by have hk2 : w.heap.size + 1 ≤ k := hk; omega)).ext (Ext.refl _).drew, HE4.drew⟩
 · have HPR : Hid (parR l = (tz, (lexR l).2.1, (lexR l).2.2)) := by show _ = _; unfold parR; rw [if_neg h0]
   have hne : ((lexR l).2.2 != 0) = true := by simpa using h0
   have hne2 : ((lexR l).2.2 == 0) = false := by simpa using h0
   have C1 : Calls Tryz.prog 15 #[.string s] (w.alloc (.cells #[.int .i64 0, .int .i64 0, .string ⟨#[]⟩, .int .i64 0, .int .i64 0, .int .i64 0, .bool false, .bool false, .int .i64 0, .int .i64 0, .bool false, .bool false, .slice none 0 0] 29)) fun e w' => ∃ v, e = .returned (.tuple #[v, .int .i64 (lexR l).2.1, .int .i64 (lexR l).2.2]) ∧ RdT w' v (lexR l).1 ∧ Ext (w.alloc (.cells #[.int .i64 0, .int .i64 0, .string ⟨#[]⟩, .int .i64 0, .int .i64 0, .int .i64 0, .bool false, .bool false, .int .i64 0, .int .i64 0, .bool false, .bool false, .slice none 0 0] 29)) w' := c1
   obtain ⟨pa, hpa⟩ : ∃ pa, (lexR l).2.1 = pa := ⟨_, rfl⟩
   obtain ⟨pe, hpe⟩ : ∃ pe, (lexR l).2.2 = pe := ⟨_, rfl⟩
   rw [hpa, hpe] at C1 HPR
   rw [hpe] at hne hne2
   clear c1 hpa hpe h0
   go_enter Tryz.func8, Tryz.ntmps8
   go_wp2_with fail
   refine C1.mono ?_
   rintro e w1 ⟨v, rfl, hR, E1⟩
   have HB : Hid (BlkX w1 w.heap.size tz (.slice none 0 0) ∧ Ext w w1) := ⟨BlkX.top rfl E1, ((Ext.refl w).alloc _).trans E1⟩
   obtain ⟨qa, ⟨la0, la1, la2, la3, la4, la5, la6, la7, la8, la9, la10, la11, la12⟩, ga0, ga1, ga2, ga3, ga4, ga5, ga6, ga7, ga8, ga9, ga10, ga11, ga12⟩ := HB.out.1
   clear C1 hR E1
   go_wp2_with fail
   rw [show (((((((((((((w1.setCell ⟨w.heap.size, 0, none⟩ (.int .i64 0)).setCell ⟨w.heap.size, 1, none⟩ (.int .i64 0)).setCell ⟨w.heap.size, 2, none⟩ (.string ⟨#[]⟩)).setCell ⟨w.heap.size, 3, none⟩ (.int .i64 0)).setCell ⟨w.heap.size, 4, none⟩ (.int .i64 0)).setCell ⟨w.heap.size, 5, none⟩ (.int .i64 0)).setCell ⟨w.heap.size, 6, none⟩ (.bool false)).setCell ⟨w.heap.size, 7, none⟩ (.bool false)).setCell ⟨w.heap.size, 8, none⟩ (.int .i64 0)).setCell ⟨w.heap.size, 9, none⟩ (.int .i64 0)).setCell ⟨w.heap.size, 10, none⟩ (.bool false)).setCell ⟨w.heap.size, 11, none⟩ (.bool false)).setCell ⟨w.heap.size, 12, none⟩ (.slice none 0 0)) = putX w1 w.heap.size tz (.slice none 0 0) from rfl]
   have HB2 := HB.out.1.put tz (.slice none 0 0)
   have HE2 : Ext w (putX w1 w.heap.size tz (.slice none 0 0)) := putX_E HB.out.2 (Nat.le_refl _) _ _
   generalize putX w1 w.heap.size tz (.slice none 0 0) = W2 at *
   obtain ⟨z, ⟨k0, k1, k2, k3, k4, k5, k6, k7, k8, k9, k10, k11, k12⟩, ff⟩ := HB2
   refine bodyPost_ret (v := .tuple #[aggX tz (.slice none 0 0), .int .i64 pa, .int .i64 pe]) (by simp [results, Tryz.results8, go_sem, k0, k1, k2, k3, k4, k5, k6, k7, k8, k9, k10, k11, k12, aggX]) rfl ?_
   unfold FormQ
   rw [HPR.out]
   exact ⟨_, rfl, .nil, HE2⟩

open Go.RowKit
set_option maxHeartbeats 6000000

theorem isIn_any (r0 r1 : Int) (r2 r3 : Bool) (w : World) : Calls Tryz.prog 29 #[.agg #[.int .i64 r0, .int .i64 r1, .bool r2, .bool r3]] w fun e w' => e = .returned (.bool (inB r0 r1)) ∧ Ext w w' := by
 have c1 := fun W => in_any r0 r1 W
 go_enter Tryz.func29, Tryz.ntmps29
 go_wp2_with fail
 refine (c1 _).mono ?_
 rintro e w1 ⟨rfl, rfl⟩
 go_wp2_with fail
 go_ret
 exact ⟨rfl, (Ext.refl _).alloc _⟩
end Go.Proofs.YtcggiljlilbdfaaGreatDoor
