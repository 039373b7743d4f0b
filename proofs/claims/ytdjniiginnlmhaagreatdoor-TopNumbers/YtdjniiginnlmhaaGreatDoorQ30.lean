/-
  The contract of Formula.
  Which trees are well made, as far as lives asks; lives.
  all, by whichever answer; towards Well of any tree.
  Well of any tree.
-/
import Derived.Test.YtdjniiginnlmhaaGreatDoorQ29
import Derived.Test.YtdjniiginnlmhaaGreatDoorQ11
namespace Go.Proofs.YtdjniiginnlmhaaGreatDoor
open Go.RowKit
set_option maxHeartbeats 6000000

theorem txt_len : ∀ (l : List UInt8) (x : List UInt8 × Nat), txt l = some x → x.1.length ≤ x.2
  | [], x, h => by simp [txt] at h
  | [c], x, h => by
    unfold txt at h
    split at h
    · cases h; simp
    · cases h
  | c :: d :: r, x, h => by
    unfold txt at h
    split at h
    · split at h
      · rw [Option.map_eq_some_iff] at h
        obtain ⟨y, hy, rfl⟩ := h
        have := txt_len r y hy
        simp; omega
      · cases h; simp
    · rw [Option.map_eq_some_iff] at h
      obtain ⟨y, hy, rfl⟩ := h
      have := txt_len (d :: r) y hy
      simp; omega
theorem nxt_len {l : List UInt8} {x : Wd} (h : nxt l = .ok x) : x.2.1.length ≤ x.2.2.2.2 := by
  cases l with
  | nil => cases h
  | cons c l =>
    rw [nxt_cons] at h
    split at h
    · unfold numR at h
      split at h
      · cases h
      · split at h
        · cases h
        · cases h; exact Nat.zero_le _
    · split at h
      · unfold txtR at h
        split at h
        · cases h
        · rename_i y hy
          cases h
          have := txt_len _ _ hy
          show y.1.length ≤ y.2 + 1
          omega
      · split at h
        · unfold wdR at h
          cases h
          show (List.take _ _).length ≤ _
          rw [List.length_take]; exact Nat.min_le_left _ _
        · split at h
          · unfold errR at h
            split at h
            · cases h
            · cases h; exact Nat.zero_le _
          · unfold sgR at h
            split at h
            · cases h
            · cases h; exact Nat.le_refl _
theorem W_len (n : Nat) : ∀ (l : List UInt8) (p : Nat) (ts : List Tk), l.length ≤ n → W p l = .ok ts → ∀ t ∈ ts, t.2.2.1.length ≤ l.length := by
  induction n with
  | zero =>
    intro l p ts hl h
    have : l = [] := List.eq_nil_of_length_eq_zero (by omega)
    subst this
    rw [W_nil] at h
    cases h
    intro t ht; simp at ht; subst ht; simp [endT]
  | succ n ih =>
    intro l p ts hl h
    cases l with
    | nil =>
      rw [W_nil] at h
      cases h
      intro t ht; simp at ht; subst ht; simp [endT]
    | cons c r =>
      by_cases hc : c = 32
      · subst hc
        rw [W_blank] at h
        intro t ht
        have := ih r (p + 1) ts (by simpa using hl) h t ht
        simp; omega
      · rw [W_cons p c r hc] at h
        cases hx : nxt (c :: r) with
        | error e => rw [hx] at h; cases h
        | ok x =>
          rw [hx] at h
          simp only [] at h
          obtain ⟨us, hu, rfl⟩ := map_ok h
          have hm := nxt_pos hx
          simp only [List.length_cons] at hm
          intro t ht
          rcases List.mem_cons.1 ht with rfl | ht
          · have := nxt_len hx
            show x.2.1.length ≤ _
            simp; omega
          · have := ih ((c :: r).drop x.2.2.2.2) (p + x.2.2.2.2) us (by simp at hl ⊢; omega) hu t ht
            simp at this ⊢; omega
/-- What Formula answers. -/
def FormQ (w : World) (l : List UInt8) (e : Ending) (w' : World) : Prop := ∃ lv, e = .returned (.tuple #[aggX (parR l).1 lv, .int .i64 (parR l).2.1, .int .i64 (parR l).2.2]) ∧ IsL w' (w.heap.size ≤ ·) lv (parR l).1.l ∧ Ext w w'
set_option maxRecDepth 100000 in
theorem pformula_any (s : ByteArray) (w : World) (hs : s.size ≤ maxLen) (hT7 : Tab7 w) (hT : Tab w) : Calls Tryz.prog 42 #[.string s] w (FormQ w s.data.toList) := by
  have HT : Hid (Tab w) := hT
  have c1 := words_any s (w.alloc (.cells #[.int .i64 0, .int .i64 0, .string ⟨#[]⟩, .int .i64 0, .int .i64 0, .int .i64 0, .bool false, .bool false, .int .i64 0, .int .i64 0, .bool false, .bool false, .slice none 0 0] 26)) hs (hT7.ext ((Ext.refl _).alloc _))
  obtain ⟨l, hl⟩ : ∃ l, s.data.toList = l := ⟨_, rfl⟩
  rw [hl] at c1 ⊢
  clear hl hs hT7 hT
  by_cases h0 : (lexR l).2.2 = 0
  · obtain ⟨ts, hl300, hW, hlex⟩ := lexR_cases l |>.resolve_right (by rintro ⟨p, c, h1, h2, _⟩; rw [h1] at h0; simp only [] at h0; omega)
    have HPR : Hid (parR l = prs ts) := by show _ = _; unfold parR; rw [if_pos h0, hlex]
    have HTS : Hid (Nz ts ∧ (∀ t ∈ ts, t.2.2.1.length ≤ 300) ∧ ts.length ≤ 400) := ⟨W_nz hW, fun t ht => Nat.le_trans (W_len l.length l 0 ts (Nat.le_refl _) hW t ht) hl300, by have := (W_count l.length l 0 ts (Nat.le_refl _) hW).1; omega⟩
    have C1 : Calls Tryz.prog 77 #[.string s] (w.alloc (.cells #[.int .i64 0, .int .i64 0, .string ⟨#[]⟩, .int .i64 0, .int .i64 0, .int .i64 0, .bool false, .bool false, .int .i64 0, .int .i64 0, .bool false, .bool false, .slice none 0 0] 26)) fun e w' => ∃ v, e = .returned (.tuple #[v, .int .i64 0, .int .i64 0]) ∧ RdT w' v ts ∧ Ext (w.alloc (.cells #[.int .i64 0, .int .i64 0, .string ⟨#[]⟩, .int .i64 0, .int .i64 0, .int .i64 0, .bool false, .bool false, .int .i64 0, .int .i64 0, .bool false, .bool false, .slice none 0 0] 26)) w' := by
      unfold WordsQ at c1
      rw [hlex] at c1
      exact c1
    clear c1 hl300 hW hlex h0
    go_enter Tryz.func42, Tryz.ntmps42
    go_wp2_with fail
    refine C1.mono ?_
    rintro e w1 ⟨v, rfl, hR, E1⟩
    have HR1 : Hid (RdT w1 v ts ∧ Ext (w.alloc (.cells #[.int .i64 0, .int .i64 0, .string ⟨#[]⟩, .int .i64 0, .int .i64 0, .int .i64 0, .bool false, .bool false, .int .i64 0, .int .i64 0, .bool false, .bool false, .slice none 0 0] 26)) w1) := ⟨hR, E1⟩
    clear C1 hR E1
    go_wp2_with fail
    refine (pread_any v ts w1 HR1.out.1 HTS.out.1 HTS.out.2.1 HTS.out.2.2 (HT.out.ext (((Ext.refl w).alloc _).trans HR1.out.2))).mono ?_
    rintro e w2 ⟨lv, rfl, hL, E2⟩
    obtain ⟨pp, cl, hlv, hcl⟩ := hL.form
    rw [← HPR.out] at hL hlv hcl ⊢
    obtain ⟨t, ht⟩ : ∃ t, (parR l).1 = t := ⟨_, rfl⟩
    obtain ⟨pa, hpa⟩ : ∃ pa, (parR l).2.1 = pa := ⟨_, rfl⟩
    obtain ⟨pe, hpe⟩ : ∃ pe, (parR l).2.2 = pe := ⟨_, rfl⟩
    have HPP : Hid ((parR l).1 = t ∧ (parR l).2.1 = pa ∧ (parR l).2.2 = pe) := ⟨ht, hpa, hpe⟩
    rw [ht] at hL hlv
    rw [ht, hpa, hpe]
    obtain ⟨ln, hln⟩ : ∃ ln, t.l.length = ln := ⟨_, rfl⟩
    rw [hln] at hlv
    subst hlv
    have hE1 : Ext (w.alloc (.cells #[.int .i64 0, .int .i64 0, .string ⟨#[]⟩, .int .i64 0, .int .i64 0, .int .i64 0, .bool false, .bool false, .int .i64 0, .int .i64 0, .bool false, .bool false, .slice none 0 0] 26)) w2 := HR1.out.2.trans E2
    have hw2 : w.heap.size + 1 ≤ w2.heap.size := by have := hE1.sz; simp at this; omega
    have HB : Hid (BlkX w2 w.heap.size tz (.slice none 0 0) ∧ Ext w w2) := ⟨BlkX.top rfl hE1, ((Ext.refl w).alloc _).trans hE1⟩
    have HL : Hid (IsL w2 (w.heap.size + 1 ≤ ·) (.slice pp ln cl) t.l) := hL.mono (fun k hk _ => by have := HR1.out.2.sz; simp at this; omega)
    clear hL E2 hcl ht hpa hpe hln hE1
    unfold aggX
    go_wp2_with fail
    have HF : Hid (BlkX ((w2.alloc (.cells #[.int .i64 t.k, .int .i64 t.n, .string (bs t.s), .int .i64 t.e, .int .i64 t.r.1, .int .i64 t.r.2.1, .bool t.r.2.2.1, .bool t.r.2.2.2, .int .i64 t.q.1, .int .i64 t.q.2.1, .bool t.q.2.2.1, .bool t.q.2.2.2, .slice pp ln cl] 26)).alloc (.cells #[.int .i64 pa, .int .i64 pe] 116)) w2.heap.size t (.slice pp ln cl) ∧ Blk2 ((w2.alloc (.cells #[.int .i64 t.k, .int .i64 t.n, .string (bs t.s), .int .i64 t.e, .int .i64 t.r.1, .int .i64 t.r.2.1, .bool t.r.2.2.1, .bool t.r.2.2.2, .int .i64 t.q.1, .int .i64 t.q.2.1, .bool t.q.2.2.1, .bool t.q.2.2.2, .slice pp ln cl] 26)).alloc (.cells #[.int .i64 pa, .int .i64 pe] 116)) (w2.heap.size + 1) (.int .i64 pa) (.int .i64 pe) ∧ BlkX ((w2.alloc (.cells #[.int .i64 t.k, .int .i64 t.n, .string (bs t.s), .int .i64 t.e, .int .i64 t.r.1, .int .i64 t.r.2.1, .bool t.r.2.2.1, .bool t.r.2.2.2, .int .i64 t.q.1, .int .i64 t.q.2.1, .bool t.q.2.2.1, .bool t.q.2.2.2, .slice pp ln cl] 26)).alloc (.cells #[.int .i64 pa, .int .i64 pe] 116)) w.heap.size tz (.slice none 0 0) ∧ IsL ((w2.alloc (.cells #[.int .i64 t.k, .int .i64 t.n, .string (bs t.s), .int .i64 t.e, .int .i64 t.r.1, .int .i64 t.r.2.1, .bool t.r.2.2.1, .bool t.r.2.2.2, .int .i64 t.q.1, .int .i64 t.q.2.1, .bool t.q.2.2.1, .bool t.q.2.2.2, .slice pp ln cl] 26)).alloc (.cells #[.int .i64 pa, .int .i64 pe] 116)) (w.heap.size + 1 ≤ ·) (.slice pp ln cl) t.l ∧ Ext w ((w2.alloc (.cells #[.int .i64 t.k, .int .i64 t.n, .string (bs t.s), .int .i64 t.e, .int .i64 t.r.1, .int .i64 t.r.2.1, .bool t.r.2.2.1, .bool t.r.2.2.2, .int .i64 t.q.1, .int .i64 t.q.2.1, .bool t.q.2.2.1, .bool t.q.2.2.2, .slice pp ln cl] 26)).alloc (.cells #[.int .i64 pa, .int .i64 pe] 116))) := ⟨blk13_top rfl ((Ext.refl _).alloc _), blk2_top (by simp) (Ext.refl _), HB.out.1.ext (((Ext.refl _).alloc _).alloc _), HL.out.ext (((Ext.refl _).alloc _).alloc _), (HB.out.2.alloc _).alloc _⟩
    generalize (w2.alloc (.cells #[.int .i64 t.k, .int .i64 t.n, .string (bs t.s), .int .i64 t.e, .int .i64 t.r.1, .int .i64 t.r.2.1, .bool t.r.2.2.1, .bool t.r.2.2.2, .int .i64 t.q.1, .int .i64 t.q.2.1, .bool t.q.2.2.1, .bool t.q.2.2.2, .slice pp ln cl] 26)).alloc (.cells #[.int .i64 pa, .int .i64 pe] 116) = W3 at HF ⊢
    have mkS : Hid (∀ W, ExtB w.heap.size W3 W → (W.cell? ⟨w2.heap.size, 0, none⟩ = some (.int .i64 t.k) ∧ W.cell? ⟨w2.heap.size, 1, none⟩ = some (.int .i64 t.n) ∧ W.cell? ⟨w2.heap.size, 2, none⟩ = some (.string (bs t.s)) ∧ W.cell? ⟨w2.heap.size, 3, none⟩ = some (.int .i64 t.e) ∧ W.cell? ⟨w2.heap.size, 4, none⟩ = some (.int .i64 t.r.1) ∧ W.cell? ⟨w2.heap.size, 5, none⟩ = some (.int .i64 t.r.2.1) ∧ W.cell? ⟨w2.heap.size, 6, none⟩ = some (.bool t.r.2.2.1) ∧ W.cell? ⟨w2.heap.size, 7, none⟩ = some (.bool t.r.2.2.2) ∧ W.cell? ⟨w2.heap.size, 8, none⟩ = some (.int .i64 t.q.1) ∧ W.cell? ⟨w2.heap.size, 9, none⟩ = some (.int .i64 t.q.2.1) ∧ W.cell? ⟨w2.heap.size, 10, none⟩ = some (.bool t.q.2.2.1) ∧ W.cell? ⟨w2.heap.size, 11, none⟩ = some (.bool t.q.2.2.2) ∧ W.cell? ⟨w2.heap.size, 12, none⟩ = some (.slice pp ln cl) ∧ W.cell? ⟨w2.heap.size + 1, 0, none⟩ = some (.int .i64 pa) ∧ W.cell? ⟨w2.heap.size + 1, 1, none⟩ = some (.int .i64 pe)) ∧ ExtB w.heap.size W3 W) := by
      intro W e
      have y := (HF.out.1.extB e (by omega)).2.1
      obtain ⟨u0, ⟨u1, u2⟩, _⟩ := HF.out.2.1
      exact ⟨⟨y.1, y.2.1, y.2.2.1, y.2.2.2.1, y.2.2.2.2.1, y.2.2.2.2.2.1, y.2.2.2.2.2.2.1, y.2.2.2.2.2.2.2.1, y.2.2.2.2.2.2.2.2.1, y.2.2.2.2.2.2.2.2.2.1, y.2.2.2.2.2.2.2.2.2.2.1, y.2.2.2.2.2.2.2.2.2.2.2.1, y.2.2.2.2.2.2.2.2.2.2.2.2, ((e.cell u0 (by omega) 0).1).trans u1, ((e.cell u0 (by omega) 1).1).trans u2⟩, e⟩
    have U1 := HF.out.2.2.1
    obtain ⟨qc, ⟨lc0, lc1, lc2, lc3, lc4, lc5, lc6, lc7, lc8, lc9, lc10, lc11, lc12⟩, gc0, gc1, gc2, gc3, gc4, gc5, gc6, gc7, gc8, gc9, gc10, gc11, gc12⟩ := U1
    have hE3 : ExtB w.heap.size W3 W3 := ExtB.refl _ _
    go_region_held3 (fun W => (W.cell? ⟨w2.heap.size, 0, none⟩ = some (.int .i64 t.k) ∧ W.cell? ⟨w2.heap.size, 1, none⟩ = some (.int .i64 t.n) ∧ W.cell? ⟨w2.heap.size, 2, none⟩ = some (.string (bs t.s)) ∧ W.cell? ⟨w2.heap.size, 3, none⟩ = some (.int .i64 t.e) ∧ W.cell? ⟨w2.heap.size, 4, none⟩ = some (.int .i64 t.r.1) ∧ W.cell? ⟨w2.heap.size, 5, none⟩ = some (.int .i64 t.r.2.1) ∧ W.cell? ⟨w2.heap.size, 6, none⟩ = some (.bool t.r.2.2.1) ∧ W.cell? ⟨w2.heap.size, 7, none⟩ = some (.bool t.r.2.2.2) ∧ W.cell? ⟨w2.heap.size, 8, none⟩ = some (.int .i64 t.q.1) ∧ W.cell? ⟨w2.heap.size, 9, none⟩ = some (.int .i64 t.q.2.1) ∧ W.cell? ⟨w2.heap.size, 10, none⟩ = some (.bool t.q.2.2.1) ∧ W.cell? ⟨w2.heap.size, 11, none⟩ = some (.bool t.q.2.2.2) ∧ W.cell? ⟨w2.heap.size, 12, none⟩ = some (.slice pp ln cl) ∧ W.cell? ⟨w2.heap.size + 1, 0, none⟩ = some (.int .i64 pa) ∧ W.cell? ⟨w2.heap.size + 1, 1, none⟩ = some (.int .i64 pe)) ∧ ExtB w.heap.size W3 W)
      ((refine mkS.out _ ?_; with_reducible (repeat (first | assumption | apply ExtB.drew | (refine ExtB.set ?_ (by exact Or.inl rfl) _))); done))
      (fail)
    go_wp2_with fail
    rw [show (((((((((((((W3.setCell ⟨w.heap.size, 0, none⟩ (.int .i64 t.k)).setCell ⟨w.heap.size, 1, none⟩ (.int .i64 t.n)).setCell ⟨w.heap.size, 2, none⟩ (.string (bs t.s))).setCell ⟨w.heap.size, 3, none⟩ (.int .i64 t.e)).setCell ⟨w.heap.size, 4, none⟩ (.int .i64 t.r.1)).setCell ⟨w.heap.size, 5, none⟩ (.int .i64 t.r.2.1)).setCell ⟨w.heap.size, 6, none⟩ (.bool t.r.2.2.1)).setCell ⟨w.heap.size, 7, none⟩ (.bool t.r.2.2.2)).setCell ⟨w.heap.size, 8, none⟩ (.int .i64 t.q.1)).setCell ⟨w.heap.size, 9, none⟩ (.int .i64 t.q.2.1)).setCell ⟨w.heap.size, 10, none⟩ (.bool t.q.2.2.1)).setCell ⟨w.heap.size, 11, none⟩ (.bool t.q.2.2.2)).setCell ⟨w.heap.size, 12, none⟩ (.slice pp ln cl)) = putX W3 w.heap.size t (.slice pp ln cl) from rfl]
    have HB4 := HF.out.2.2.1.put t (.slice pp ln cl)
    have HE4 : Ext w (putX W3 w.heap.size t (.slice pp ln cl)) := putX_E HF.out.2.2.2.2 (Nat.le_refl _) _ _
    have HL4 : IsL (putX W3 w.heap.size t (.slice pp ln cl)) (w.heap.size + 1 ≤ ·) (.slice pp ln cl) t.l := putX_L (g := w.heap.size) (t := t) (lv := .slice pp ln cl) HF.out.2.2.2.1 (fun k hk => by have hk2 : w.heap.size + 1 ≤ k := hk; omega)
    generalize putX W3 w.heap.size t (.slice pp ln cl) = W4 at HB4 HE4 HL4 ⊢
    obtain ⟨z, ⟨k0, k1, k2, k3, k4, k5, k6, k7, k8, k9, k10, k11, k12⟩, ff⟩ := HB4
    refine bodyPost_ret (v := .tuple #[aggX t (.slice pp ln cl), .int .i64 pa, .int .i64 pe]) (by simp [results, Tryz.results42, go_sem, k0, k1, k2, k3, k4, k5, k6, k7, k8, k9, k10, k11, k12, aggX]) rfl ?_
    unfold FormQ
    rw [HPP.out.1, HPP.out.2.1, HPP.out.2.2]
    exact ⟨_, rfl, (HL4.mono (fun k hk _ => by have hk2 : w.heap.size + 1 ≤ k := hk; omega)).ext (Ext.refl _).drew, HE4.drew⟩
  · have HPR : Hid (parR l = (tz, (lexR l).2.1, (lexR l).2.2)) := by show _ = _; unfold parR; rw [if_neg h0]
    have hne : ((lexR l).2.2 != 0) = true := by simpa using h0
    have hne2 : ((lexR l).2.2 == 0) = false := by simpa using h0
    have C1 : Calls Tryz.prog 77 #[.string s] (w.alloc (.cells #[.int .i64 0, .int .i64 0, .string ⟨#[]⟩, .int .i64 0, .int .i64 0, .int .i64 0, .bool false, .bool false, .int .i64 0, .int .i64 0, .bool false, .bool false, .slice none 0 0] 26)) fun e w' => ∃ v, e = .returned (.tuple #[v, .int .i64 (lexR l).2.1, .int .i64 (lexR l).2.2]) ∧ RdT w' v (lexR l).1 ∧ Ext (w.alloc (.cells #[.int .i64 0, .int .i64 0, .string ⟨#[]⟩, .int .i64 0, .int .i64 0, .int .i64 0, .bool false, .bool false, .int .i64 0, .int .i64 0, .bool false, .bool false, .slice none 0 0] 26)) w' := c1
    obtain ⟨pa, hpa⟩ : ∃ pa, (lexR l).2.1 = pa := ⟨_, rfl⟩
    obtain ⟨pe, hpe⟩ : ∃ pe, (lexR l).2.2 = pe := ⟨_, rfl⟩
    rw [hpa, hpe] at C1 HPR
    rw [hpe] at hne hne2
    clear c1 hpa hpe h0
    go_enter Tryz.func42, Tryz.ntmps42
    go_wp2_with fail
    refine C1.mono ?_
    rintro e w1 ⟨v, rfl, hR, E1⟩
    have HB : Hid (BlkX w1 w.heap.size tz (.slice none 0 0) ∧ Ext w w1) := ⟨BlkX.top rfl E1, ((Ext.refl w).alloc _).trans E1⟩
    obtain ⟨qa, ⟨la0, la1, la2, la3, la4, la5, la6, la7, la8, la9, la10, la11, la12⟩, ga0, ga1, ga2, ga3, ga4, ga5, ga6, ga7, ga8, ga9, ga10, ga11, ga12⟩ := HB.out.1
    clear C1 hR E1
    go_wp2_with fail
    rw [show (((((((((((((w1.setCell ⟨w.heap.size, 0, none⟩ (.int .i64 0)).setCell ⟨w.heap.size, 1, none⟩ (.int .i64 0)).setCell ⟨w.heap.size, 2, none⟩ (.string ⟨#[]⟩)).setCell ⟨w.heap.size, 3, none⟩ (.int .i64 0)).setCell ⟨w.heap.size, 4, none⟩ (.int .i64 0)).setCell ⟨w.heap.size, 5, none⟩ (.int .i64 0)).setCell ⟨w.heap.size, 6, none⟩ (.bool false)).setCell ⟨w.heap.size, 7, none⟩ (.bool false)).setCell ⟨w.heap.size, 8, none⟩ (.int .i64 0)).setCell ⟨w.heap.size, 9, none⟩ (.int .i64 0)).setCell ⟨w.heap.size, 10, none⟩ (.bool false)).setCell ⟨w.heap.size, 11, none⟩ (.bool false)).setCell ⟨w.heap.size, 12, none⟩ (.slice none 0 0)) = putX w1 w.heap.size tz (.slice none 0 0) from rfl]
    have HB2 := HB.out.1.put tz (.slice none 0 0)
    have HE2 : Ext w (putX w1 w.heap.size tz (.slice none 0 0)) := putX_E HB.out.2 (Nat.le_refl _) _ _
    generalize putX w1 w.heap.size tz (.slice none 0 0) = W2 at *
    obtain ⟨z, ⟨k0, k1, k2, k3, k4, k5, k6, k7, k8, k9, k10, k11, k12⟩, ff⟩ := HB2
    refine bodyPost_ret (v := .tuple #[aggX tz (.slice none 0 0), .int .i64 pa, .int .i64 pe]) (by simp [results, Tryz.results42, go_sem, k0, k1, k2, k3, k4, k5, k6, k7, k8, k9, k10, k11, k12, aggX]) rfl ?_
    unfold FormQ
    rw [HPR.out]
    exact ⟨_, rfl, .nil, HE2⟩
end Go.Proofs.YtdjniiginnlmhaaGreatDoor

namespace Go.Proofs.YtdjniiginnlmhaaGreatDoor
open Go.RowKit
set_option maxHeartbeats 6000000

theorem isIn_any (r0 r1 : Int) (r2 r3 : Bool) (w : World) : Calls Tryz.prog 53 #[.agg #[.int .i64 r0, .int .i64 r1, .bool r2, .bool r3]] w fun e w' => e = .returned (.bool (inB r0 r1)) ∧ Ext w w' := by
  have c1 := fun W => in_any r0 r1 W
  go_enter Tryz.func53, Tryz.ntmps53
  go_wp2_with fail
  refine (c1 _).mono ?_
  rintro e w1 ⟨rfl, rfl⟩
  go_wp2_with fail
  go_ret
  exact ⟨rfl, (Ext.refl _).alloc _⟩
/-- Well says yes of t. -/
def WTr (P : Nat → Prop) (t : T) : Prop := ∀ (W : World) (pp : Option Addr) (ln cl : Nat), IsL W P (.slice pp ln cl) t.l → Calls Tryz.prog 25 #[.agg #[.int .i64 t.k, .int .i64 t.n, .string (bs t.s), .int .i64 t.e, .int .i64 t.r.1, .int .i64 t.r.2.1, .bool t.r.2.2.1, .bool t.r.2.2.2, .int .i64 t.q.1, .int .i64 t.q.2.1, .bool t.q.2.2.1, .bool t.q.2.2.2, .slice pp ln cl]] W fun e w' => e = .returned (.bool true) ∧ Ext W w'
set_option maxRecDepth 100000 in
theorem all_true (P : Nat → Prop) (l : List T) (pp : Option Addr) (ln cl : Nat) (w : World) (hl : l.length ≤ 1000) (hx : ∀ x ∈ l, WTr P x) (h : IsL w P (.slice pp ln cl) l) :
    Calls Tryz.prog 54 #[.slice pp ln cl, .func (.func 25) #[] #[]] w fun e w' => e = .returned (.bool true) ∧ Ext w w' := by
  have hln : ln = l.length := by
    obtain ⟨p, c, h1, _⟩ := h.form
    cases h1; rfl
  have hent : ∀ args W, (callFunc 25 args).run Tryz.prog W = .ok (.enter 25 args) W := enters_of Tryz.func25 (by kernel_rfl) rfl
  have HX : Hid (∀ x ∈ l, WTr P x) := hx
  have HI : Hid (IsL w P (.slice pp ln cl) l) := h
  have HLN : Hid (ln = l.length) := hln
  have hl2 : ln ≤ 1000 := by omega
  clear hx h hln hl
  go_enter Tryz.func54, Tryz.ntmps54
  go_wp2_with fail
  go_loopw [6, 9] (fun _ i wr => ∃ j : Nat, j ≤ ln ∧ i = .int .i64 (j : Int) ∧ Ext w wr) (fun _ i _ => ln - (intOf i).toNat)
  case atStart => exact ⟨0, Nat.zero_le _, rfl, Ext.refl _⟩
  case round =>
    obtain ⟨j, hj, rfl, hE⟩ := hrel
    have HE : Hid (Ext w wr) := hE
    clear hE
    by_cases hlt : j < ln
    · have hltI : (j : Int) < (ln : Int) := by omega
      have hI := HI.out.ext HE.out
      obtain ⟨gb, off, x, lv, hpp, hx1, hA1, hgb, hA2, hLx, hce⟩ := hI.at (i := j) (by rw [← HLN.out]; exact hlt)
      clear hA1 hA2
      subst hpp
      obtain ⟨pp, cl', hlv, hcl⟩ := hLx.form
      obtain ⟨ln', hln'⟩ : ∃ ln', x.l.length = ln' := ⟨_, rfl⟩
      rw [hln'] at hlv
      subst hlv
      have HC : Hid (Calls Tryz.prog 25 #[.agg #[.int .i64 x.k, .int .i64 x.n, .string (bs x.s), .int .i64 x.e, .int .i64 x.r.1, .int .i64 x.r.2.1, .bool x.r.2.2.1, .bool x.r.2.2.2, .int .i64 x.q.1, .int .i64 x.q.2.1, .bool x.q.2.2.1, .bool x.q.2.2.2, .slice pp ln' cl']] (wr.alloc (.cells #[.int .i64 x.k, .int .i64 x.n, .string (bs x.s), .int .i64 x.e, .int .i64 x.r.1, .int .i64 x.r.2.1, .bool x.r.2.2.1, .bool x.r.2.2.2, .int .i64 x.q.1, .int .i64 x.q.2.1, .bool x.q.2.2.1, .bool x.q.2.2.2, .slice pp ln' cl'] 26)) fun e w' => e = .returned (.bool true) ∧ Ext (wr.alloc (.cells #[.int .i64 x.k, .int .i64 x.n, .string (bs x.s), .int .i64 x.e, .int .i64 x.r.1, .int .i64 x.r.2.1, .bool x.r.2.2.1, .bool x.r.2.2.2, .int .i64 x.q.1, .int .i64 x.q.2.1, .bool x.q.2.2.1, .bool x.q.2.2.2, .slice pp ln' cl'] 26)) w') := HX.out x (List.mem_of_getElem? hx1) _ pp ln' cl' (hLx.ext ((Ext.refl _).alloc _))
      have e0 : wr.cell? ⟨gb, off + j * 13, none⟩ = some (.int .i64 x.k) := hce 0 _ rfl
      have e1 : wr.cell? ⟨gb, off + j * 13 + 1, none⟩ = some (.int .i64 x.n) := hce 1 _ rfl
      have e2 : wr.cell? ⟨gb, off + j * 13 + 2, none⟩ = some (.string (bs x.s)) := hce 2 _ rfl
      have e3 : wr.cell? ⟨gb, off + j * 13 + 3, none⟩ = some (.int .i64 x.e) := hce 3 _ rfl
      have e4 : wr.cell? ⟨gb, off + j * 13 + 4, none⟩ = some (.int .i64 x.r.1) := hce 4 _ rfl
      have e5 : wr.cell? ⟨gb, off + j * 13 + 5, none⟩ = some (.int .i64 x.r.2.1) := hce 5 _ rfl
      have e6 : wr.cell? ⟨gb, off + j * 13 + 6, none⟩ = some (.bool x.r.2.2.1) := hce 6 _ rfl
      have e7 : wr.cell? ⟨gb, off + j * 13 + 7, none⟩ = some (.bool x.r.2.2.2) := hce 7 _ rfl
      have e8 : wr.cell? ⟨gb, off + j * 13 + 8, none⟩ = some (.int .i64 x.q.1) := hce 8 _ rfl
      have e9 : wr.cell? ⟨gb, off + j * 13 + 9, none⟩ = some (.int .i64 x.q.2.1) := hce 9 _ rfl
      have e10 : wr.cell? ⟨gb, off + j * 13 + 10, none⟩ = some (.bool x.q.2.2.1) := hce 10 _ rfl
      have e11 : wr.cell? ⟨gb, off + j * 13 + 11, none⟩ = some (.bool x.q.2.2.2) := hce 11 _ rfl
      have e12 : wr.cell? ⟨gb, off + j * 13 + 12, none⟩ = some (.slice pp ln' cl') := hce 12 _ rfl
      clear hI hx1 hLx hce hcl hln'
      go_wp2_with fail
      refine HC.out.mono ?_
      rintro e w1 ⟨rfl, E1⟩
      have HE1 : Hid (Ext w w1) := (HE.out.alloc _).trans E1
      clear E1 e0 e1 e2 e3 e4 e5 e6 e7 e8 e9 e10 e11 e12
      go_wp2_with fail
      go_roundw
      case rel => exact ⟨j + 1, by omega, by go_num, HE1.out⟩
      case measure => show ln - ((j : Int) + 1).toNat < ln - ((j : Int)).toNat; omega
    · have hltI : ¬ (j : Int) < (ln : Int) := by omega
      go_wp2_with fail
      go_ret
      exact ⟨rfl, HE.out⟩
theorem wt_num (P : Nat → Prop) (t : T) (hk : t.k = 0) (hn : 0 ≤ t.n) : WTr P t := by
  intro W pp ln cl _
  have e0 : (t.k == 0) = true := by rw [hk]; rfl
  have HN : Hid (decide (0 ≤ t.n) = true) := by show _ = _; simpa using hn
  generalize t.k = tk at *
  generalize t.n = tn at *
  clear hk hn
  go_enter Tryz.func25, Tryz.ntmps25
  go_wp2_with fail
  go_ret
  exact ⟨ret_bool HN.out, (Ext.refl _).alloc _⟩
theorem wt_ref (P : Nat → Prop) (t : T) (hk : t.k = 4) (hn : inB t.r.1 t.r.2.1 = true) : WTr P t := by
  intro W pp ln cl _
  have e0 : (t.k == 0) = false := by rw [hk]; rfl
  have e1 : (t.k == 1) = false := by rw [hk]; rfl
  have e2 : (t.k == 2) = false := by rw [hk]; rfl
  have e3 : (t.k == 3) = false := by rw [hk]; rfl
  have e4 : (t.k == 4) = true := by rw [hk]; rfl
  have c1 := fun W => isIn_any t.r.1 t.r.2.1 t.r.2.2.1 t.r.2.2.2 W
  rw [hn] at c1
  generalize t.k = tk at *
  clear hk hn
  go_enter Tryz.func25, Tryz.ntmps25
  go_wp2_with fail
  refine (c1 _).mono ?_
  rintro e w1 ⟨rfl, E1⟩
  have HE : Hid (Ext W w1) := ((Ext.refl _).alloc _).trans E1
  clear E1
  go_wp2_with fail
  go_ret
  exact ⟨rfl, HE.out⟩
theorem wt_neg (P : Nat → Prop) (t : T) (hk : t.k = 6) (hl : t.l.length = 1) (hx : ∀ x ∈ t.l, WTr P x) : WTr P t := by
  intro W pp ln cl h
  have hln : ln = 1 := by
    obtain ⟨p, c, h1, _⟩ := h.form
    cases h1; exact hl
  subst hln
  have e0 : (t.k == 0) = false := by rw [hk]; rfl
  have e1 : (t.k == 1) = false := by rw [hk]; rfl
  have e2 : (t.k == 2) = false := by rw [hk]; rfl
  have e3 : (t.k == 3) = false := by rw [hk]; rfl
  have e4 : (t.k == 4) = false := by rw [hk]; rfl
  have e6 : (t.k == 6) = true := by rw [hk]; rfl
  have HC : Hid (∀ W', Ext W W' → Calls Tryz.prog 54 #[.slice pp 1 cl, .func (.func 25) #[] #[]] W' fun e w' => e = .returned (.bool true) ∧ Ext W' w') := fun W' e => all_true P t.l pp 1 cl W' (by omega) hx (h.ext e)
  generalize t.k = tk at *
  clear hk hl hx h
  go_enter Tryz.func25, Tryz.ntmps25
  go_wp2_with fail
  refine (HC.out _ ((Ext.refl _).alloc _)).mono ?_
  rintro e w1 ⟨rfl, E1⟩
  have HE : Hid (Ext W w1) := ((Ext.refl _).alloc _).trans E1
  clear E1
  go_wp2_with fail
  go_ret
  exact ⟨rfl, HE.out⟩
theorem wt_bin (P : Nat → Prop) (t : T) (hk : t.k = 7) (hl : t.l.length = 2) (hb : bnd t.s ≠ 0) (hx : ∀ x ∈ t.l, WTr P x) : WTr P t := by
  intro W pp ln cl h
  have hln : ln = 2 := by
    obtain ⟨p, c, h1, _⟩ := h.form
    cases h1; exact hl
  subst hln
  have e0 : (t.k == 0) = false := by rw [hk]; rfl
  have e1 : (t.k == 1) = false := by rw [hk]; rfl
  have e2 : (t.k == 2) = false := by rw [hk]; rfl
  have e3 : (t.k == 3) = false := by rw [hk]; rfl
  have e4 : (t.k == 4) = false := by rw [hk]; rfl
  have e6 : (t.k == 6) = false := by rw [hk]; rfl
  have e7 : (t.k == 7) = true := by rw [hk]; rfl
  have cB := fun W => binds_any (bs t.s) W
  have es : (bs t.s).data.toList = t.s := rfl
  rw [es] at cB
  obtain ⟨bb, hbb⟩ : ∃ bb, bnd t.s = bb := ⟨_, rfl⟩
  rw [hbb] at cB hb
  have hbn : ((bb : Int) != 0) = true := by simp; omega
  have hbe : ((bb : Int) == 0) = false := by simp; omega
  have HC : Hid (∀ W', Ext W W' → Calls Tryz.prog 54 #[.slice pp 2 cl, .func (.func 25) #[] #[]] W' fun e w' => e = .returned (.bool true) ∧ Ext W' w') := fun W' e => all_true P t.l pp 2 cl W' (by omega) hx (h.ext e)
  generalize t.k = tk at *
  generalize bs t.s = q at *
  clear hk hl hx h es hbb hb
  go_enter Tryz.func25, Tryz.ntmps25
  go_wp2_with fail
  refine (cB _).mono ?_
  rintro e w1 ⟨rfl, rfl⟩
  go_wp2_with fail
  refine (HC.out _ ((Ext.refl _).alloc _)).mono ?_
  rintro e w1 ⟨rfl, E1⟩
  have HE : Hid (Ext W w1) := ((Ext.refl _).alloc _).trans E1
  clear E1
  go_wp2_with fail
  go_ret
  exact ⟨rfl, HE.out⟩
def liveT : T := tBin [42] (tNeg (tRef (1, 1, false, false))) (tNum 20000)
theorem live_par : parR [45, 65, 49, 42, 50] = (liveT, 0, 0) := by kernel_rfl
theorem live_well (P : Nat → Prop) : WTr P liveT := by
  refine wt_bin P liveT rfl rfl (by decide) ?_
  intro x hx
  rcases List.mem_cons.1 hx with rfl | hx
  · refine wt_neg P _ rfl rfl ?_
    intro y hy
    rcases List.mem_cons.1 hy with rfl | hy
    · exact wt_ref P _ rfl (by decide)
    · cases hy
  · rcases List.mem_cons.1 hx with rfl | hx
    · exact wt_num P _ rfl (by decide)
    · cases hx
end Go.Proofs.YtdjniiginnlmhaaGreatDoor

namespace Go.Proofs.YtdjniiginnlmhaaGreatDoor
open Go.RowKit
set_option maxHeartbeats 6000000

theorem allx_take {l : List T} {g : T → Bool} {j : Nat} {x : T} (h : l[j]? = some x) : (l.take (j + 1)).all g = ((l.take j).all g && g x) := by
  rw [List.take_add_one, h, List.all_append]; simp
set_option maxRecDepth 100000 in
theorem all_any (K : FuncId) (P : Nat → Prop) (g : T → Bool) (l : List T) (pp : Option Addr) (ln cl : Nat) (w : World) (hl : l.length ≤ 100000) (hent : ∀ args W, (callFunc K args).run Tryz.prog W = .ok (.enter K args) W) (hx : ∀ x ∈ l, ATr K P g x) (h : IsL w P (.slice pp ln cl) l) :
    Calls Tryz.prog 54 #[.slice pp ln cl, .func (.func K) #[] #[]] w fun e w' => e = .returned (.bool (l.all g)) ∧ Ext w w' := by
  have hln : ln = l.length := by
    obtain ⟨p, c, h1, _⟩ := h.form
    cases h1; rfl
  have HX : Hid (∀ x ∈ l, ATr K P g x) := hx
  have HI : Hid (IsL w P (.slice pp ln cl) l) := h
  have HLN : Hid (ln = l.length) := hln
  have hl2 : ln ≤ 100000 := by omega
  clear hx h hln hl
  go_enter Tryz.func54, Tryz.ntmps54
  go_wp2_with fail
  go_loopw [6, 9] (fun _ i wr => ∃ j : Nat, j ≤ ln ∧ i = .int .i64 (j : Int) ∧ (l.take j).all g = true ∧ Ext w wr) (fun _ i _ => ln - (intOf i).toNat)
  case atStart => exact ⟨0, Nat.zero_le _, rfl, rfl, Ext.refl _⟩
  case round =>
    obtain ⟨j, hj, rfl, hg, hE⟩ := hrel
    have HE : Hid (Ext w wr ∧ (l.take j).all g = true) := ⟨hE, hg⟩
    clear hE hg
    by_cases hlt : j < ln
    · have hltI : (j : Int) < (ln : Int) := by omega
      have hI := HI.out.ext HE.out.1
      obtain ⟨gb, off, x, lv, hpp, hx1, hA1, hgb, hA2, hLx, hce⟩ := hI.at (i := j) (by rw [← HLN.out]; exact hlt)
      clear hA1 hA2
      subst hpp
      obtain ⟨pp, cl', hlv, hcl⟩ := hLx.form
      obtain ⟨ln', hln'⟩ : ∃ ln', x.l.length = ln' := ⟨_, rfl⟩
      rw [hln'] at hlv
      subst hlv
      have HX1 : Hid (l[j]? = some x) := hx1
      have HC : Hid (Calls Tryz.prog K #[.agg #[.int .i64 x.k, .int .i64 x.n, .string (bs x.s), .int .i64 x.e, .int .i64 x.r.1, .int .i64 x.r.2.1, .bool x.r.2.2.1, .bool x.r.2.2.2, .int .i64 x.q.1, .int .i64 x.q.2.1, .bool x.q.2.2.1, .bool x.q.2.2.2, .slice pp ln' cl']] (wr.alloc (.cells #[.int .i64 x.k, .int .i64 x.n, .string (bs x.s), .int .i64 x.e, .int .i64 x.r.1, .int .i64 x.r.2.1, .bool x.r.2.2.1, .bool x.r.2.2.2, .int .i64 x.q.1, .int .i64 x.q.2.1, .bool x.q.2.2.1, .bool x.q.2.2.2, .slice pp ln' cl'] 26)) fun e w' => e = .returned (.bool (g x)) ∧ Ext (wr.alloc (.cells #[.int .i64 x.k, .int .i64 x.n, .string (bs x.s), .int .i64 x.e, .int .i64 x.r.1, .int .i64 x.r.2.1, .bool x.r.2.2.1, .bool x.r.2.2.2, .int .i64 x.q.1, .int .i64 x.q.2.1, .bool x.q.2.2.1, .bool x.q.2.2.2, .slice pp ln' cl'] 26)) w') := HX.out x (List.mem_of_getElem? hx1) _ pp ln' cl' (hLx.ext ((Ext.refl _).alloc _))
      have e0 : wr.cell? ⟨gb, off + j * 13, none⟩ = some (.int .i64 x.k) := hce 0 _ rfl
      have e1 : wr.cell? ⟨gb, off + j * 13 + 1, none⟩ = some (.int .i64 x.n) := hce 1 _ rfl
      have e2 : wr.cell? ⟨gb, off + j * 13 + 2, none⟩ = some (.string (bs x.s)) := hce 2 _ rfl
      have e3 : wr.cell? ⟨gb, off + j * 13 + 3, none⟩ = some (.int .i64 x.e) := hce 3 _ rfl
      have e4 : wr.cell? ⟨gb, off + j * 13 + 4, none⟩ = some (.int .i64 x.r.1) := hce 4 _ rfl
      have e5 : wr.cell? ⟨gb, off + j * 13 + 5, none⟩ = some (.int .i64 x.r.2.1) := hce 5 _ rfl
      have e6 : wr.cell? ⟨gb, off + j * 13 + 6, none⟩ = some (.bool x.r.2.2.1) := hce 6 _ rfl
      have e7 : wr.cell? ⟨gb, off + j * 13 + 7, none⟩ = some (.bool x.r.2.2.2) := hce 7 _ rfl
      have e8 : wr.cell? ⟨gb, off + j * 13 + 8, none⟩ = some (.int .i64 x.q.1) := hce 8 _ rfl
      have e9 : wr.cell? ⟨gb, off + j * 13 + 9, none⟩ = some (.int .i64 x.q.2.1) := hce 9 _ rfl
      have e10 : wr.cell? ⟨gb, off + j * 13 + 10, none⟩ = some (.bool x.q.2.2.1) := hce 10 _ rfl
      have e11 : wr.cell? ⟨gb, off + j * 13 + 11, none⟩ = some (.bool x.q.2.2.2) := hce 11 _ rfl
      have e12 : wr.cell? ⟨gb, off + j * 13 + 12, none⟩ = some (.slice pp ln' cl') := hce 12 _ rfl
      clear hI hx1 hLx hce hcl hln'
      go_wp2_with fail
      refine HC.out.mono ?_
      rintro e w1 ⟨rfl, E1⟩
      have HE1 : Hid (Ext w w1) := (HE.out.1.alloc _).trans E1
      clear E1 e0 e1 e2 e3 e4 e5 e6 e7 e8 e9 e10 e11 e12
      cases hgx : g x
      · have HR : Hid (l.all g = false) := by
          show _ = _
          rw [List.all_eq_false]
          exact ⟨x, List.mem_of_getElem? HX1.out, by rw [hgx]; simp⟩
        clear hgx
        go_wp2_with fail
        go_ret
        exact ⟨ret_bool HR.out.symm, HE1.out⟩
      · have HR : Hid ((l.take (j + 1)).all g = true) := by show _ = _; rw [allx_take HX1.out, HE.out.2, hgx]; rfl
        clear hgx
        go_wp2_with fail
        go_roundw
        case rel => exact ⟨j + 1, by omega, by go_num, HR.out, HE1.out⟩
        case measure => show ln - ((j : Int) + 1).toNat < ln - ((j : Int)).toNat; omega
    · have hltI : ¬ (j : Int) < (ln : Int) := by omega
      have HR : Hid (l.all g = true) := by
        show _ = _
        have := HE.out.2
        rw [List.take_of_length_le (by have := HLN.out; omega)] at this
        exact this
      go_wp2_with fail
      go_ret
      exact ⟨ret_bool HR.out.symm, HE.out.1⟩
/-! ### Well -/
set_option maxRecDepth 100000 in
theorem isArg_any (P : Nat → Prop) (n : Nat) (t : T) (hw : ATr 25 P (wellT n) t) : ATr 57 P (argT n) t := by
  intro W pp ln cl h
  by_cases k5 : t.k = 5
  · have e5 : (t.k == 5) = true := by rw [k5]; rfl
    have HX : Hid (argT n t = (inB t.r.1 t.r.2.1 && inB t.q.1 t.q.2.1)) := by show _ = _; unfold argT; rw [if_pos k5]
    have c1 := fun W => isIn_any t.r.1 t.r.2.1 t.r.2.2.1 t.r.2.2.2 W
    have c2 := fun W => isIn_any t.q.1 t.q.2.1 t.q.2.2.1 t.q.2.2.2 W
    clear k5 hw h
    cases h1 : inB t.r.1 t.r.2.1
    · rw [h1] at c1 HX
      clear h1
      go_enter Tryz.func57, Tryz.ntmps57
      go_wp2_with fail
      refine (c1 _).mono ?_
      rintro e w1 ⟨rfl, E1⟩
      have HE : Hid (Ext W w1) := ((Ext.refl _).alloc _).trans E1
      clear E1
      go_wp2_with fail
      go_ret
      exact ⟨ret_bool (by rw [HX.out]; rfl), HE.out⟩
    · rw [h1] at c1 HX
      clear h1
      go_enter Tryz.func57, Tryz.ntmps57
      go_wp2_with fail
      refine (c1 _).mono ?_
      rintro e w1 ⟨rfl, E1⟩
      have HE : Hid (Ext W w1) := ((Ext.refl _).alloc _).trans E1
      have hB := blk13_top rfl E1
      obtain ⟨q0, ⟨l0, l1, l2, l3, l4, l5, l6, l7, l8, l9, l10, l11, l12⟩, gg⟩ := hB
      clear E1 gg
      go_wp2_with fail
      refine (c2 _).mono ?_
      rintro e w2 ⟨rfl, E2⟩
      have HE2 : Hid (Ext W w2) := HE.out.trans E2
      clear E2
      go_wp2_with fail
      go_ret
      exact ⟨ret_bool (by rw [HX.out]; rfl), HE2.out⟩
  · have e5 : (t.k == 5) = false := by simpa using k5
    have HX : Hid (argT n t = wellT n t) := by show _ = _; unfold argT; rw [if_neg k5]
    have HW : Hid (∀ W', Ext W W' → Calls Tryz.prog 25 #[.agg #[.int .i64 t.k, .int .i64 t.n, .string (bs t.s), .int .i64 t.e, .int .i64 t.r.1, .int .i64 t.r.2.1, .bool t.r.2.2.1, .bool t.r.2.2.2, .int .i64 t.q.1, .int .i64 t.q.2.1, .bool t.q.2.2.1, .bool t.q.2.2.2, .slice pp ln cl]] W' fun e w' => e = .returned (.bool (wellT n t)) ∧ Ext W' w') := fun W' e => hw W' pp ln cl (h.ext e)
    clear k5 hw h
    go_enter Tryz.func57, Tryz.ntmps57
    go_wp2_with fail
    refine (HW.out _ ((Ext.refl _).alloc _)).mono ?_
    rintro e w1 ⟨rfl, E1⟩
    have HE : Hid (Ext W w1) := ((Ext.refl _).alloc _).trans E1
    clear E1
    go_wp2_with fail
    go_ret
    exact ⟨ret_bool HX.out.symm, HE.out⟩
end Go.Proofs.YtdjniiginnlmhaaGreatDoor

namespace Go.Proofs.YtdjniiginnlmhaaGreatDoor
open Go.RowKit
set_option maxHeartbeats 6000000

set_option maxRecDepth 100000 in
theorem well_leaf (P : Nat → Prop) (n : Nat) (t : T) (hk6 : t.k ≠ 6) (hk7 : t.k ≠ 7) (hk8 : t.k ≠ 8) : ATr 25 P (wellT (n + 1)) t := by
  intro W pp ln cl _
  by_cases hk : t.k = 0
  · have e0 : (t.k == 0) = true := by rw [hk]; rfl
    have HX : Hid (wellT (n + 1) t = decide (0 ≤ t.n)) := by show _ = _; unfold wellT; simp [hk]
    clear hk hk6 hk7 hk8
    go_enter Tryz.func25, Tryz.ntmps25
    go_wp2_with fail
    go_ret
    exact ⟨ret_bool HX.out.symm, (Ext.refl _).alloc _⟩
  have k0 := hk
  clear hk
  by_cases hk : t.k = 1
  · have e0 : (t.k == 0) = false := by rw [hk]; rfl
    have e1 : (t.k == 1) = true := by rw [hk]; rfl
    have HX : Hid (wellT (n + 1) t = decide (t.s.length ≤ 300)) := by show _ = _; unfold wellT; simp [hk]
    have HB : Hid ((bs t.s).size = t.s.length) := bs_size _
    generalize bs t.s = q at *
    clear hk hk6 hk7 hk8 k0
    go_enter Tryz.func25, Tryz.ntmps25
    go_wp2_with fail
    go_ret
    refine ⟨ret_bool ?_, (Ext.refl _).alloc _⟩
    rw [HX.out, ← HB.out]
    simp
    omega
  have k1 := hk
  clear hk
  by_cases hk : t.k = 2
  · have e0 : (t.k == 0) = false := by rw [hk]; rfl
    have e1 : (t.k == 1) = false := by rw [hk]; rfl
    have e2 : (t.k == 2) = true := by rw [hk]; rfl
    have HX : Hid (wellT (n + 1) t = (t.n == 0 || t.n == 1)) := by show _ = _; unfold wellT; simp [hk]
    clear hk hk6 hk7 hk8 k0 k1
    cases hn : (t.n == 0)
    · rw [hn] at HX
      go_enter Tryz.func25, Tryz.ntmps25
      go_wp2_with fail
      go_ret
      exact ⟨ret_bool HX.out.symm, (Ext.refl _).alloc _⟩
    · rw [hn] at HX
      go_enter Tryz.func25, Tryz.ntmps25
      go_wp2_with fail
      go_ret
      exact ⟨ret_bool HX.out.symm, (Ext.refl _).alloc _⟩
  have k2 := hk
  clear hk
  by_cases hk : t.k = 3
  · have e0 : (t.k == 0) = false := by rw [hk]; rfl
    have e1 : (t.k == 1) = false := by rw [hk]; rfl
    have e2 : (t.k == 2) = false := by rw [hk]; rfl
    have e3 : (t.k == 3) = true := by rw [hk]; rfl
    have HX : Hid (wellT (n + 1) t = (decide (1 ≤ t.e) && decide (t.e ≤ 5))) := by show _ = _; unfold wellT; simp [hk]
    clear hk hk6 hk7 hk8 k0 k1 k2
    by_cases h1 : 1 ≤ t.e
    · have d1 : decide (1 ≤ t.e) = true := by simpa using h1
      rw [d1] at HX
      go_enter Tryz.func25, Tryz.ntmps25
      go_wp2_with fail
      go_ret
      exact ⟨ret_bool HX.out.symm, (Ext.refl _).alloc _⟩
    · have d1 : decide (1 ≤ t.e) = false := by simpa using h1
      rw [d1] at HX
      go_enter Tryz.func25, Tryz.ntmps25
      go_wp2_with fail
      go_ret
      exact ⟨ret_bool HX.out.symm, (Ext.refl _).alloc _⟩
  have k3 := hk
  clear hk
  by_cases hk : t.k = 4
  · have e0 : (t.k == 0) = false := by rw [hk]; rfl
    have e1 : (t.k == 1) = false := by rw [hk]; rfl
    have e2 : (t.k == 2) = false := by rw [hk]; rfl
    have e3 : (t.k == 3) = false := by rw [hk]; rfl
    have e4 : (t.k == 4) = true := by rw [hk]; rfl
    have HX : Hid (wellT (n + 1) t = inB t.r.1 t.r.2.1) := by show _ = _; unfold wellT; simp [hk]
    have c1 := fun W => isIn_any t.r.1 t.r.2.1 t.r.2.2.1 t.r.2.2.2 W
    clear hk hk6 hk7 hk8 k0 k1 k2 k3
    go_enter Tryz.func25, Tryz.ntmps25
    go_wp2_with fail
    refine (c1 _).mono ?_
    rintro e w1 ⟨rfl, E1⟩
    have HE : Hid (Ext W w1) := ((Ext.refl _).alloc _).trans E1
    clear E1
    go_wp2_with fail
    go_ret
    exact ⟨ret_bool HX.out.symm, HE.out⟩
  have k4 := hk
  clear hk
  have HX : Hid (wellT (n + 1) t = false) := by show _ = _; unfold wellT; simp [k0, k1, k2, k3, k4, hk6, hk7, hk8]
  have e0 : (t.k == 0) = false := by simpa using k0
  have e1 : (t.k == 1) = false := by simpa using k1
  have e2 : (t.k == 2) = false := by simpa using k2
  have e3 : (t.k == 3) = false := by simpa using k3
  have e4 : (t.k == 4) = false := by simpa using k4
  have e6 : (t.k == 6) = false := by simpa using hk6
  have e7 : (t.k == 7) = false := by simpa using hk7
  have e8 : (t.k == 8) = false := by simpa using hk8
  clear hk6 hk7 hk8 k0 k1 k2 k3 k4
  go_enter Tryz.func25, Tryz.ntmps25
  go_wp2_with fail
  go_ret
  exact ⟨ret_bool HX.out.symm, (Ext.refl _).alloc _⟩
set_option maxRecDepth 100000 in
theorem well_neg (P : Nat → Prop) (n : Nat) (t : T) (hk : t.k = 6) (hl : t.l.length ≤ 100000) (hx : ∀ x ∈ t.l, ATr 25 P (wellT n) x) : ATr 25 P (wellT (n + 1)) t := by
  intro W pp ln cl h
  have hln : t.l.length = ln := by
    obtain ⟨p, c, h1, _⟩ := h.form
    cases h1; rfl
  have e0 : (t.k == 0) = false := by rw [hk]; rfl
  have e1 : (t.k == 1) = false := by rw [hk]; rfl
  have e2 : (t.k == 2) = false := by rw [hk]; rfl
  have e3 : (t.k == 3) = false := by rw [hk]; rfl
  have e4 : (t.k == 4) = false := by rw [hk]; rfl
  have e6 : (t.k == 6) = true := by rw [hk]; rfl
  have HX : Hid (wellT (n + 1) t = (ln == 1 && t.l.all (wellT n))) := by show _ = _; unfold wellT; simp [hk, hln]
  have HC : Hid (∀ W', Ext W W' → Calls Tryz.prog 54 #[.slice pp ln cl, .func (.func 25) #[] #[]] W' fun e w' => e = .returned (.bool (t.l.all (wellT n))) ∧ Ext W' w') := fun W' e => all_any 25 P (wellT n) t.l pp ln cl W' hl (enters_of Tryz.func25 (by kernel_rfl) rfl) hx (h.ext e)
  clear hk hl hx h hln
  by_cases h1 : ln = 1
  · have d1 : ((ln : Int) == 1) = true := by rw [h1]; rfl
    have HY : Hid ((ln == 1) = true) := by show _ = _; rw [h1]; rfl
    clear h1
    go_enter Tryz.func25, Tryz.ntmps25
    go_wp2_with fail
    refine (HC.out _ ((Ext.refl _).alloc _)).mono ?_
    rintro e w1 ⟨rfl, E1⟩
    have HE : Hid (Ext W w1) := ((Ext.refl _).alloc _).trans E1
    clear E1
    go_wp2_with fail
    go_ret
    exact ⟨ret_bool (by rw [HX.out, HY.out]; rfl), HE.out⟩
  · have d1 : ((ln : Int) == 1) = false := by simp; omega
    have HY : Hid ((ln == 1) = false) := by show _ = _; simpa using h1
    clear h1
    go_enter Tryz.func25, Tryz.ntmps25
    go_wp2_with fail
    go_ret
    exact ⟨ret_bool (by rw [HX.out, HY.out]; rfl), (Ext.refl _).alloc _⟩
set_option maxRecDepth 100000 in
theorem well_bin (P : Nat → Prop) (n : Nat) (t : T) (hk : t.k = 7) (hl : t.l.length ≤ 100000) (hx : ∀ x ∈ t.l, ATr 25 P (wellT n) x) : ATr 25 P (wellT (n + 1)) t := by
  intro W pp ln cl h
  have hln : t.l.length = ln := by
    obtain ⟨p, c, h1, _⟩ := h.form
    cases h1; rfl
  have e0 : (t.k == 0) = false := by rw [hk]; rfl
  have e1 : (t.k == 1) = false := by rw [hk]; rfl
  have e2 : (t.k == 2) = false := by rw [hk]; rfl
  have e3 : (t.k == 3) = false := by rw [hk]; rfl
  have e4 : (t.k == 4) = false := by rw [hk]; rfl
  have e6 : (t.k == 6) = false := by rw [hk]; rfl
  have e7 : (t.k == 7) = true := by rw [hk]; rfl
  have HX : Hid (wellT (n + 1) t = (bnd t.s != 0 && ln == 2 && t.l.all (wellT n))) := by show _ = _; unfold wellT; simp [hk, hln]
  have HC : Hid (∀ W', Ext W W' → Calls Tryz.prog 54 #[.slice pp ln cl, .func (.func 25) #[] #[]] W' fun e w' => e = .returned (.bool (t.l.all (wellT n))) ∧ Ext W' w') := fun W' e => all_any 25 P (wellT n) t.l pp ln cl W' hl (enters_of Tryz.func25 (by kernel_rfl) rfl) hx (h.ext e)
  have cB := fun W => binds_any (bs t.s) W
  have es : (bs t.s).data.toList = t.s := rfl
  rw [es] at cB
  obtain ⟨bb, hbb⟩ : ∃ bb, bnd t.s = bb := ⟨_, rfl⟩
  rw [hbb] at cB HX
  generalize bs t.s = q at *
  clear hk hl hx h hln es hbb
  by_cases h0 : bb = 0
  · have b1 : ((bb : Int) != 0) = false := by rw [h0]; rfl
    have HY : Hid ((bb != 0) = false) := by show _ = _; rw [h0]; rfl
    clear h0
    go_enter Tryz.func25, Tryz.ntmps25
    go_wp2_with fail
    refine (cB _).mono ?_
    rintro e w1 ⟨rfl, rfl⟩
    go_wp2_with fail
    go_ret
    exact ⟨ret_bool (by rw [HX.out, HY.out]; rfl), (Ext.refl _).alloc _⟩
  have b1 : ((bb : Int) != 0) = true := by simp; omega
  have HY0 : Hid ((bb != 0) = true) := by show _ = _; simpa using h0
  clear h0
  by_cases h1 : ln = 2
  · have d1 : ((ln : Int) == 2) = true := by rw [h1]; rfl
    have HY : Hid ((ln == 2) = true) := by show _ = _; rw [h1]; rfl
    clear h1
    go_enter Tryz.func25, Tryz.ntmps25
    go_wp2_with fail
    refine (cB _).mono ?_
    rintro e w1 ⟨rfl, rfl⟩
    go_wp2_with fail
    refine (HC.out _ ((Ext.refl _).alloc _)).mono ?_
    rintro e w1 ⟨rfl, E1⟩
    have HE : Hid (Ext W w1) := ((Ext.refl _).alloc _).trans E1
    clear E1
    go_wp2_with fail
    go_ret
    exact ⟨ret_bool (by rw [HX.out, HY.out, HY0.out]; rfl), HE.out⟩
  · have d1 : ((ln : Int) == 2) = false := by simp; omega
    have HY : Hid ((ln == 2) = false) := by show _ = _; simpa using h1
    clear h1
    go_enter Tryz.func25, Tryz.ntmps25
    go_wp2_with fail
    refine (cB _).mono ?_
    rintro e w1 ⟨rfl, rfl⟩
    go_wp2_with fail
    go_ret
    exact ⟨ret_bool (by rw [HX.out, HY.out, HY0.out]; rfl), (Ext.refl _).alloc _⟩
set_option maxRecDepth 100000 in
theorem well_call (P : Nat → Prop) (n : Nat) (t : T) (hk : t.k = 8) (hl : t.l.length ≤ 100000) (hx : ∀ x ∈ t.l, ATr 57 P (argT n) x) : ATr 25 P (wellT (n + 1)) t := by
  intro W pp ln cl h
  have hln : t.l.length = ln := by
    obtain ⟨p, c, h1, _⟩ := h.form
    cases h1; rfl
  have e0 : (t.k == 0) = false := by rw [hk]; rfl
  have e1 : (t.k == 1) = false := by rw [hk]; rfl
  have e2 : (t.k == 2) = false := by rw [hk]; rfl
  have e3 : (t.k == 3) = false := by rw [hk]; rfl
  have e4 : (t.k == 4) = false := by rw [hk]; rfl
  have e6 : (t.k == 6) = false := by rw [hk]; rfl
  have e7 : (t.k == 7) = false := by rw [hk]; rfl
  have e8 : (t.k == 8) = true := by rw [hk]; rfl
  have HX : Hid (wellT (n + 1) t = ((kno t.s).isSome && decide (knA t.s ≤ ln) && decide ((ln : Int) ≤ knB t.s) && t.l.all (argT n))) := by show _ = _; unfold wellT; simp only [hk, hln]; rfl
  have HC : Hid (∀ W', Ext W W' → Calls Tryz.prog 54 #[.slice pp ln cl, .func (.func 57) #[] #[]] W' fun e w' => e = .returned (.bool (t.l.all (argT n))) ∧ Ext W' w') := fun W' e => all_any 57 P (argT n) t.l pp ln cl W' hl (enters_of Tryz.func57 (by kernel_rfl) rfl) hx (h.ext e)
  have cK := fun W => known_any (bs t.s) W
  have es : (bs t.s).data.toList = t.s := rfl
  rw [es] at cK
  obtain ⟨ka, hka⟩ : ∃ ka, knA t.s = ka := ⟨_, rfl⟩
  obtain ⟨kb, hkb⟩ : ∃ kb, knB t.s = kb := ⟨_, rfl⟩
  rw [hka, hkb] at cK HX
  generalize bs t.s = q at *
  clear hk hl hx h hln es hka hkb
  cases hs : (kno t.s).isSome
  · rw [hs] at cK HX
    clear hs
    go_enter Tryz.func25, Tryz.ntmps25
    go_wp2_with fail
    refine (cK _).mono ?_
    rintro e w1 ⟨rfl, rfl⟩
    go_wp2_with fail
    go_ret
    exact ⟨ret_bool (by rw [HX.out]; rfl), (Ext.refl _).alloc _⟩
  rw [hs] at cK HX
  clear hs
  by_cases h1 : ka ≤ (ln : Int)
  · have d1 : decide (ka ≤ (ln : Int)) = true := by simpa using h1
    rw [d1] at HX
    by_cases h2 : (ln : Int) ≤ kb
    · have d2 : decide ((ln : Int) ≤ kb) = true := by simpa using h2
      rw [d2] at HX
      go_enter Tryz.func25, Tryz.ntmps25
      go_wp2_with fail
      refine (cK _).mono ?_
      rintro e w1 ⟨rfl, rfl⟩
      go_wp2_with fail
      refine (HC.out _ ((Ext.refl _).alloc _)).mono ?_
      rintro e w1 ⟨rfl, E1⟩
      have HE : Hid (Ext W w1) := ((Ext.refl _).alloc _).trans E1
      clear E1
      go_wp2_with fail
      go_ret
      exact ⟨ret_bool (by rw [HX.out]; rfl), HE.out⟩
    · have d2 : decide ((ln : Int) ≤ kb) = false := by simpa using h2
      rw [d2] at HX
      go_enter Tryz.func25, Tryz.ntmps25
      go_wp2_with fail
      refine (cK _).mono ?_
      rintro e w1 ⟨rfl, rfl⟩
      go_wp2_with fail
      go_ret
      exact ⟨ret_bool (by rw [HX.out]; rfl), (Ext.refl _).alloc _⟩
  · have d1 : decide (ka ≤ (ln : Int)) = false := by simpa using h1
    rw [d1] at HX
    go_enter Tryz.func25, Tryz.ntmps25
    go_wp2_with fail
    refine (cK _).mono ?_
    rintro e w1 ⟨rfl, rfl⟩
    go_wp2_with fail
    go_ret
    exact ⟨ret_bool (by rw [HX.out]; rfl), (Ext.refl _).alloc _⟩
/-- Well of any tree that is not deeper than n. -/
theorem well_any (P : Nat → Prop) (n : Nat) : ∀ t, Hr n t → ATr 25 P (wellT n) t := by
  induction n with
  | zero => intro t h; exact h.elim
  | succ n ih =>
    intro t h
    by_cases h6 : t.k = 6
    · exact well_neg P n t h6 h.1 (fun x hx => ih x (h.2 x hx))
    by_cases h7 : t.k = 7
    · exact well_bin P n t h7 h.1 (fun x hx => ih x (h.2 x hx))
    by_cases h8 : t.k = 8
    · exact well_call P n t h8 h.1 (fun x hx => isArg_any P n x (ih x (h.2 x hx)))
    exact well_leaf P n t h6 h7 h8
end Go.Proofs.YtdjniiginnlmhaaGreatDoor
