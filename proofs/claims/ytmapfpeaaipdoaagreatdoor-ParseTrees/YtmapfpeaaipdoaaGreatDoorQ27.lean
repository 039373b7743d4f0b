/-
  What is answered of a formula in brackets, of a call of two formulas, of a formula with more blanks between its words. Plain mathematics: no program in sight.
  The contract of Formula.
  Trees with not too many parts. Plain mathematics.
-/
import Derived.Test.YtmapfpeaaipdoaaGreatDoorQ26
import Derived.Test.YtmapfpeaaipdoaaGreatDoorQ10
namespace Go.Proofs.YtmapfpeaaipdoaaGreatDoor
open Go.RowKit

theorem cd_ne (b : Bool) : cd b ≠ 0 := by cases b <;> decide
theorem lexR_ok {l : List UInt8} (h : (lexR l).2.2 = 0) : ∃ ts, l.length ≤ 300 ∧ W 0 l = .ok ts ∧ lexR l = (ts, 0, 0) := by
  rcases lexR_cases l with h1 | ⟨p, c, h1, h2, _⟩
  · exact h1
  · rw [h1] at h; simp only [] at h; omega
theorem lexR_of {l : List UInt8} {ts : List Tk} (hl : l.length ≤ 300) (h : W 0 l = .ok ts) : lexR l = (ts, 0, 0) := by
  unfold lexR; rw [if_neg (by omega), h]
theorem lexR_long {l : List UInt8} (hl : 300 < l.length) : lexR l = ([], 0, 2) := by unfold lexR; rw [if_pos hl]
theorem parR_ok {l : List UInt8} (h : (parR l).2.2 = 0) : ∃ ts x ts1, l.length ≤ 300 ∧ W 0 l = .ok ts ∧ frm (O ts.length) 0 ts = .ok (x, ts1) ∧ (hd ts1).1 = 5 ∧ parR l = (x, 0, 0) := by
  unfold parR at h ⊢
  by_cases hc : (lexR l).2.2 = 0
  · rw [if_pos hc] at h ⊢
    obtain ⟨ts, h1, h2, h3⟩ := lexR_ok hc
    rw [h3] at h ⊢
    simp only [] at h ⊢
    unfold prs at h ⊢
    cases hf : frm (O ts.length) 0 ts with
    | error e => rw [hf] at h; exact absurd h (cd_ne e.2)
    | ok a =>
      obtain ⟨x, ts1⟩ := a
      rw [hf] at h
      simp only [] at h ⊢
      by_cases h5 : (hd ts1).1 = 5
      · exact ⟨ts, x, ts1, h1, h2, hf, h5, by rw [if_pos h5]⟩
      · rw [if_neg h5] at h; simp at h
  · rw [if_neg hc] at h; exact absurd h hc
theorem parR_of {l : List UInt8} {ts : List Tk} (hl : l.length ≤ 300) (h : W 0 l = .ok ts) : parR l = prs ts := by
  unfold parR; rw [lexR_of hl h, if_pos rfl]
theorem parR_long {l : List UInt8} (hl : 300 < l.length) : parR l = (tz, 0, 2) := by
  unfold parR; rw [lexR_long hl, if_neg (by decide)]
/-- What reads up to the end goes on being it, level by level. -/
theorem lp_end (side : Rd) (k d f : Nat) (x : T) (ts : List Tk) (h : (hd ts).1 = 5) : lp side k d f x ts = .ok (x, ts) := by
  cases f with
  | zero => rfl
  | succ f => rw [lp, if_neg (by rw [h]; simp)]
theorem frm_ok {o : Rd} {d : Nat} {ts ts1 : List Tk} {x : T} (h : o d ts = .ok (x, ts1)) (h5 : (hd ts1).1 = 5) : frm o d ts = .ok (x, ts1) := by
  unfold frm
  simp only [lv, h, lp_end _ _ _ _ _ _ h5]
theorem frm_err {o : Rd} {d : Nat} {ts : List Tk} {e : Ft} (h : o d ts = .error e) : frm o d ts = .error e := by
  unfold frm
  simp only [lv, h]
theorem opn_open (F G : Rd) (d p : Nat) (ts : List Tk) : opn F G d (tOpen p :: ts) = brk F d (tOpen p :: ts) := by
  unfold opn smp isSg hd tOpen
  simp
theorem pass_open (d p : Nat) (ts : List Tk) (hd40 : d ≤ 40) : pass1 [40] d (tOpen p :: ts) = .ok ts := by
  unfold pass1 isSg hd tOpen tk1
  simp; omega
theorem pass_close (d p : Nat) (ts : List Tk) (hd40 : d ≤ 40) : pass1 [41] d (tClose p :: ts) = .ok ts := by
  unfold pass1 isSg hd tClose tk1
  simp; omega
theorem pass_comma (d p : Nat) (ts : List Tk) (hd40 : d ≤ 40) : pass1 [44] d (tComma p :: ts) = .ok ts := by
  unfold pass1 isSg hd tComma tk1
  simp; omega
/-- A formula that is read up to the end is read so with a stop in place of the end, one deeper, or it lies too deep. -/
theorem frm_stop {l : List UInt8} {ts ts1 : List Tk} {x : T} (a m : Nat) (tl : List Tk) (hS : Stp false tl) (hW : W 0 l = .ok ts) (h : frm (O ts.length) 0 ts = .ok (x, ts1)) (h5 : (hd ts1).1 = 5) (hm : (ts.dropLast.map (mvT a) ++ tl).length ≤ m) :
    frm (O m) 1 (ts.dropLast.map (mvT a) ++ tl) = .ok (x, tl) ∨ ∃ p, frm (O m) 1 (ts.dropLast.map (mvT a) ++ tl) = .error (p, true) := by
  have k := frm_all hS ts.length m 0 1 ts _ ⟨by decide, by intro h; cases h⟩ (W_rt tl a hW) (Nat.le_refl _) hm
  rw [h] at k
  rcases k with k | ⟨⟨x', ts'⟩, k1, k2, k3⟩ | ⟨_, p, k⟩
  · exact k.elim
  · left
    simp only [] at k2 k3
    rw [k1, k2, (k3.ends hS h5).1]
  · exact .inr ⟨p, k⟩
/-- Brackets change nothing. -/
theorem parR_brk {l : List UInt8} (h : (parR l).2.2 = 0) : (parR (40 :: (l ++ [41]))).2.2 = 2 ∨ parR (40 :: (l ++ [41])) = ((parR l).1, 0, 0) := by
  obtain ⟨ts, x, ts1, hl, hW, hf, h5, hp⟩ := parR_ok h
  by_cases hn : 300 < (40 :: (l ++ [41])).length
  · left; rw [parR_long hn]
  · rw [parR_of (by omega) (W_brk hW), hp]
    simp only []
    generalize htl : [tClose (1 + l.length), endT (1 + l.length + 1)] = tl
    have hS : Stp false tl := ⟨_, _, htl.symm, rfl, .inl rfl⟩
    unfold prs
    obtain ⟨m, hm⟩ : ∃ m, (ts.dropLast.map (mvT 1) ++ tl).length = m := ⟨_, rfl⟩
    have e1 : (tOpen 0 :: (ts.dropLast.map (mvT 1) ++ tl)).length = m + 1 := by rw [List.length_cons, hm]
    rw [e1]
    have e2 : O (m + 1) 0 (tOpen 0 :: (ts.dropLast.map (mvT 1) ++ tl)) = brk (frm (O m)) 0 (tOpen 0 :: (ts.dropLast.map (mvT 1) ++ tl)) := opn_open _ _ _ _ _
    unfold brk at e2
    rw [pass_open _ _ _ (by decide)] at e2
    simp only [] at e2
    rcases frm_stop 1 m tl hS hW hf h5 (by omega) with k | ⟨p, k⟩
    · rw [k] at e2
      subst htl
      simp only [pass_close _ _ _ (Nat.zero_le 40)] at e2
      right
      rw [frm_ok e2 rfl]
      rfl
    · rw [k] at e2
      left
      rw [frm_err e2]; rfl
theorem isSg_comma (p : Nat) (ts : List Tk) : isSg [58] (tComma p :: ts) = false := by unfold isSg hd tComma; rfl
theorem isSg_close (p : Nat) (ts : List Tk) : isSg [58] (tClose p :: ts) = false := by unfold isSg hd tClose; rfl
theorem argm_stop {F : Rd} {d : Nat} {ts tl : List Tk} {x : T} (h : F d ts = .ok (x, tl)) (hs : isSg [58] tl = false) : argm F d ts = .ok (x, tl) := by
  unfold argm
  rw [h]
  simp only []
  rw [if_neg (by rw [hs]; simp)]
theorem argm_err {F : Rd} {d : Nat} {ts : List Tk} {e : Ft} (h : F d ts = .error e) : argm F d ts = .error e := by
  unfold argm; rw [h]
theorem opn_word (F G : Rd) (d p : Nat) (ts : List Tk) (hd40 : d ≤ 40) : opn F G d (tWord p wMod :: ts) = brk (call F wMod 2 2) d ts := by
  unfold opn smp isSg wrd hd tWord tk1
  simp [wMod, wTrue, wFalse, kno, kn1, kn2, kn3]
  rw [if_neg (by omega)]
/-- A call of two formulas. -/
theorem parR_args {l m : List UInt8} (h : (parR l).2.2 = 0) (k : (parR m).2.2 = 0) : (parR (77 :: 79 :: 68 :: 40 :: (l ++ 44 :: (m ++ [41])))).2.2 = 2 ∨ parR (77 :: 79 :: 68 :: 40 :: (l ++ 44 :: (m ++ [41]))) = (tCall wMod [(parR l).1, (parR m).1], 0, 0) := by
  obtain ⟨ts, x, ts1, hl, hW, hf, h5, hp⟩ := parR_ok h
  obtain ⟨us, y, us1, kl, kW, kf, k5, kp⟩ := parR_ok k
  by_cases hn : 300 < (77 :: 79 :: 68 :: 40 :: (l ++ 44 :: (m ++ [41]))).length
  · left; rw [parR_long hn]
  · obtain ⟨p, q, hA⟩ := W_args hW kW
    rw [parR_of (by omega) hA, hp, kp]
    simp only []
    generalize htl : [tClose q, endT (q + 1)] = tl
    have hS : Stp false tl := ⟨_, _, htl.symm, rfl, .inl rfl⟩
    generalize htl2 : tComma p :: (us.dropLast.map (mvT (p + 1)) ++ tl) = tl2
    have hS2 : Stp false tl2 := ⟨_, _, htl2.symm, rfl, .inr rfl⟩
    unfold prs
    obtain ⟨n, hm⟩ : ∃ n, (tOpen 3 :: (ts.dropLast.map (mvT 4) ++ tl2)).length = n := ⟨_, rfl⟩
    have e1 : (tWord 0 wMod :: tOpen 3 :: (ts.dropLast.map (mvT 4) ++ tl2)).length = n + 1 := by rw [List.length_cons, hm]
    rw [e1]
    have hn2 : (us.dropLast.map (mvT (p + 1)) ++ tl).length ≤ n := by rw [← hm, ← htl2]; simp; omega
    have hn1 : (ts.dropLast.map (mvT 4) ++ tl2).length ≤ n := by rw [← hm]; simp
    have e2 : O (n + 1) 0 (tWord 0 wMod :: tOpen 3 :: (ts.dropLast.map (mvT 4) ++ tl2)) = brk (call (frm (O n)) wMod 2 2) 0 (tOpen 3 :: (ts.dropLast.map (mvT 4) ++ tl2)) := opn_word _ _ _ _ _ (by decide)
    unfold brk at e2
    rw [pass_open _ _ _ (by decide)] at e2
    simp only [call, args] at e2
    rcases frm_stop 4 n tl2 hS2 hW hf h5 hn1 with k1 | ⟨z, k1⟩
    · rw [argm_stop k1 (by rw [← htl2]; exact isSg_comma _ _)] at e2
      subst htl2
      simp only [List.length_cons, argl, List.length_nil, Nat.zero_add, show (1 : Nat) < 2 from by decide, true_or, if_true, pass_comma _ _ _ (show 1 ≤ 40 by decide)] at e2
      rcases frm_stop (p + 1) n tl hS kW kf k5 hn2 with k2 | ⟨z, k2⟩
      · rw [argm_stop k2 (by rw [← htl]; exact isSg_close _ _)] at e2
        obtain ⟨g, hg⟩ : ∃ g, (us.dropLast.map (mvT (p + 1)) ++ tl).length = g + 1 := ⟨(us.dropLast.map (mvT (p + 1)) ++ tl).length - 1, by rw [← htl]; simp⟩
        rw [hg] at e2
        simp only [argl, List.length_append, List.length_cons, List.length_nil, Nat.zero_add, Nat.reduceAdd, Nat.lt_irrefl, false_and, or_self, if_false] at e2
        subst htl
        simp only [pass_close _ _ _ (Nat.zero_le 40)] at e2
        right
        rw [frm_ok e2 rfl]
        rfl
      · rw [argm_err k2] at e2
        left
        rw [frm_err e2]; rfl
    · rw [argm_err k1] at e2
      left
      rw [frm_err e2]; rfl
end Go.Proofs.YtmapfpeaaipdoaaGreatDoor

namespace Go.Proofs.YtmapfpeaaipdoaaGreatDoor
open Go.RowKit
set_option maxHeartbeats 6000000

theorem txt_len : ∀ (l : List UInt8) (x : List UInt8 × Nat), txt l = some x → x.1.length ≤ x.2
  | [], x, h => by simp [txt] at h
  | [c], x, h => by
    unfold txt at h
    split at h
    · cases h; simp
    · cases h
  | c :: d :: r, x, h => by
    unfold txt at h
    split at h
    · split at h
      · rw [Option.map_eq_some_iff] at h
        obtain ⟨y, hy, rfl⟩ := h
        have := txt_len r y hy
        simp; omega
      · cases h; simp
    · rw [Option.map_eq_some_iff] at h
      obtain ⟨y, hy, rfl⟩ := h
      have := txt_len (d :: r) y hy
      simp; omega
theorem nxt_len {l : List UInt8} {x : Wd} (h : nxt l = .ok x) : x.2.1.length ≤ x.2.2.2.2 := by
  cases l with
  | nil => cases h
  | cons c l =>
    rw [nxt_cons] at h
    split at h
    · unfold numR at h
      split at h
      · cases h
      · split at h
        · cases h
        · cases h; exact Nat.zero_le _
    · split at h
      · unfold txtR at h
        split at h
        · cases h
        · rename_i y hy
          cases h
          have := txt_len _ _ hy
          show y.1.length ≤ y.2 + 1
          omega
      · split at h
        · unfold wdR at h
          cases h
          show (List.take _ _).length ≤ _
          rw [List.length_take]; exact Nat.min_le_left _ _
        · split at h
          · unfold errR at h
            split at h
            · cases h
            · cases h; exact Nat.zero_le _
          · unfold sgR at h
            split at h
            · cases h
            · cases h; exact Nat.le_refl _
theorem W_len (n : Nat) : ∀ (l : List UInt8) (p : Nat) (ts : List Tk), l.length ≤ n → W p l = .ok ts → ∀ t ∈ ts, t.2.2.1.length ≤ l.length := by
  induction n with
  | zero =>
    intro l p ts hl h
    have : l = [] := List.eq_nil_of_length_eq_zero (by omega)
    subst this
    rw [W_nil] at h
    cases h
    intro t ht; simp at ht; subst ht; simp [endT]
  | succ n ih =>
    intro l p ts hl h
    cases l with
    | nil =>
      rw [W_nil] at h
      cases h
      intro t ht; simp at ht; subst ht; simp [endT]
    | cons c r =>
      by_cases hc : c = 32
      · subst hc
        rw [W_blank] at h
        intro t ht
        have := ih r (p + 1) ts (by simpa using hl) h t ht
        simp; omega
      · rw [W_cons p c r hc] at h
        cases hx : nxt (c :: r) with
        | error e => rw [hx] at h; cases h
        | ok x =>
          rw [hx] at h
          simp only [] at h
          obtain ⟨us, hu, rfl⟩ := map_ok h
          have hm := nxt_pos hx
          simp only [List.length_cons] at hm
          intro t ht
          rcases List.mem_cons.1 ht with rfl | ht
          · have := nxt_len hx
            show x.2.1.length ≤ _
            simp; omega
          · have := ih ((c :: r).drop x.2.2.2.2) (p + x.2.2.2.2) us (by simp at hl ⊢; omega) hu t ht
            simp at this ⊢; omega
/-- What Formula answers. -/
def FormQ (w : World) (l : List UInt8) (e : Ending) (w' : World) : Prop := ∃ lv, e = .returned (.tuple #[aggX (parR l).1 lv, .int .i64 (parR l).2.1, .int .i64 (parR l).2.2]) ∧ IsL w' (w.heap.size ≤ ·) lv (parR l).1.l ∧ Ext w w'
set_option maxRecDepth 100000 in
theorem pformula_any (s : ByteArray) (w : World) (hs : s.size ≤ maxLen) (hT7 : Tab7 w) (hT : Tab w) : Calls Tryz.prog 14 #[.string s] w (FormQ w s.data.toList) := by
  have HT : Hid (Tab w) := hT
  have c1 := words_any s (w.alloc (.cells #[.int .i64 0, .int .i64 0, .string ⟨#[]⟩, .int .i64 0, .int .i64 0, .int .i64 0, .bool false, .bool false, .int .i64 0, .int .i64 0, .bool false, .bool false, .slice none 0 0] 26)) hs (hT7.ext ((Ext.refl _).alloc _))
  obtain ⟨l, hl⟩ : ∃ l, s.data.toList = l := ⟨_, rfl⟩
  rw [hl] at c1 ⊢
  clear hl hs hT7 hT
  by_cases h0 : (lexR l).2.2 = 0
  · obtain ⟨ts, hl300, hW, hlex⟩ := lexR_cases l |>.resolve_right (by rintro ⟨p, c, h1, h2, _⟩; rw [h1] at h0; simp only [] at h0; omega)
    have HPR : Hid (parR l = prs ts) := by show _ = _; unfold parR; rw [if_pos h0, hlex]
    have HTS : Hid (Nz ts ∧ (∀ t ∈ ts, t.2.2.1.length ≤ 300) ∧ ts.length ≤ 400) := ⟨W_nz hW, fun t ht => Nat.le_trans (W_len l.length l 0 ts (Nat.le_refl _) hW t ht) hl300, by have := (W_count l.length l 0 ts (Nat.le_refl _) hW).1; omega⟩
    have C1 : Calls Tryz.prog 26 #[.string s] (w.alloc (.cells #[.int .i64 0, .int .i64 0, .string ⟨#[]⟩, .int .i64 0, .int .i64 0, .int .i64 0, .bool false, .bool false, .int .i64 0, .int .i64 0, .bool false, .bool false, .slice none 0 0] 26)) fun e w' => ∃ v, e = .returned (.tuple #[v, .int .i64 0, .int .i64 0]) ∧ RdT w' v ts ∧ Ext (w.alloc (.cells #[.int .i64 0, .int .i64 0, .string ⟨#[]⟩, .int .i64 0, .int .i64 0, .int .i64 0, .bool false, .bool false, .int .i64 0, .int .i64 0, .bool false, .bool false, .slice none 0 0] 26)) w' := by
      unfold WordsQ at c1
      rw [hlex] at c1
      exact c1
    clear c1 hl300 hW hlex h0
    go_enter Tryz.func14, Tryz.ntmps14
    go_wp2_with fail
    refine C1.mono ?_
    rintro e w1 ⟨v, rfl, hR, E1⟩
    have HR1 : Hid (RdT w1 v ts ∧ Ext (w.alloc (.cells #[.int .i64 0, .int .i64 0, .string ⟨#[]⟩, .int .i64 0, .int .i64 0, .int .i64 0, .bool false, .bool false, .int .i64 0, .int .i64 0, .bool false, .bool false, .slice none 0 0] 26)) w1) := ⟨hR, E1⟩
    clear C1 hR E1
    go_wp2_with fail
    refine (pread_any v ts w1 HR1.out.1 HTS.out.1 HTS.out.2.1 HTS.out.2.2 (HT.out.ext (((Ext.refl w).alloc _).trans HR1.out.2))).mono ?_
    rintro e w2 ⟨lv, rfl, hL, E2⟩
    obtain ⟨pp, cl, hlv, hcl⟩ := hL.form
    rw [← HPR.out] at hL hlv hcl ⊢
    obtain ⟨t, ht⟩ : ∃ t, (parR l).1 = t := ⟨_, rfl⟩
    obtain ⟨pa, hpa⟩ : ∃ pa, (parR l).2.1 = pa := ⟨_, rfl⟩
    obtain ⟨pe, hpe⟩ : ∃ pe, (parR l).2.2 = pe := ⟨_, rfl⟩
    have HPP : Hid ((parR l).1 = t ∧ (parR l).2.1 = pa ∧ (parR l).2.2 = pe) := ⟨ht, hpa, hpe⟩
    rw [ht] at hL hlv
    rw [ht, hpa, hpe]
    obtain ⟨ln, hln⟩ : ∃ ln, t.l.length = ln := ⟨_, rfl⟩
    rw [hln] at hlv
    subst hlv
    have hE1 : Ext (w.alloc (.cells #[.int .i64 0, .int .i64 0, .string ⟨#[]⟩, .int .i64 0, .int .i64 0, .int .i64 0, .bool false, .bool false, .int .i64 0, .int .i64 0, .bool false, .bool false, .slice none 0 0] 26)) w2 := HR1.out.2.trans E2
    have hw2 : w.heap.size + 1 ≤ w2.heap.size := by have := hE1.sz; simp at this; omega
    have HB : Hid (BlkX w2 w.heap.size tz (.slice none 0 0) ∧ Ext w w2) := ⟨BlkX.top rfl hE1, ((Ext.refl w).alloc _).trans hE1⟩
    have HL : Hid (IsL w2 (w.heap.size + 1 ≤ ·) (.slice pp ln cl) t.l) := hL.mono (fun k hk _ => by have := HR1.out.2.sz; simp at this; omega)
    clear hL E2 hcl ht hpa hpe hln hE1
    unfold aggX
    go_wp2_with fail
    have HF : Hid (BlkX ((w2.alloc (.cells #[.int .i64 t.k, .int .i64 t.n, .string (bs t.s), .int .i64 t.e, .int .i64 t.r.1, .int .i64 t.r.2.1, .bool t.r.2.2.1, .bool t.r.2.2.2, .int .i64 t.q.1, .int .i64 t.q.2.1, .bool t.q.2.2.1, .bool t.q.2.2.2, .slice pp ln cl] 26)).alloc (.cells #[.int .i64 pa, .int .i64 pe] 49)) w2.heap.size t (.slice pp ln cl) ∧ Blk2 ((w2.alloc (.cells #[.int .i64 t.k, .int .i64 t.n, .string (bs t.s), .int .i64 t.e, .int .i64 t.r.1, .int .i64 t.r.2.1, .bool t.r.2.2.1, .bool t.r.2.2.2, .int .i64 t.q.1, .int .i64 t.q.2.1, .bool t.q.2.2.1, .bool t.q.2.2.2, .slice pp ln cl] 26)).alloc (.cells #[.int .i64 pa, .int .i64 pe] 49)) (w2.heap.size + 1) (.int .i64 pa) (.int .i64 pe) ∧ BlkX ((w2.alloc (.cells #[.int .i64 t.k, .int .i64 t.n, .string (bs t.s), .int .i64 t.e, .int .i64 t.r.1, .int .i64 t.r.2.1, .bool t.r.2.2.1, .bool t.r.2.2.2, .int .i64 t.q.1, .int .i64 t.q.2.1, .bool t.q.2.2.1, .bool t.q.2.2.2, .slice pp ln cl] 26)).alloc (.cells #[.int .i64 pa, .int .i64 pe] 49)) w.heap.size tz (.slice none 0 0) ∧ IsL ((w2.alloc (.cells #[.int .i64 t.k, .int .i64 t.n, .string (bs t.s), .int .i64 t.e, .int .i64 t.r.1, .int .i64 t.r.2.1, .bool t.r.2.2.1, .bool t.r.2.2.2, .int .i64 t.q.1, .int .i64 t.q.2.1, .bool t.q.2.2.1, .bool t.q.2.2.2, .slice pp ln cl] 26)).alloc (.cells #[.int .i64 pa, .int .i64 pe] 49)) (w.heap.size + 1 ≤ ·) (.slice pp ln cl) t.l ∧ Ext w ((w2.alloc (.cells #[.int .i64 t.k, .int .i64 t.n, .string (bs t.s), .int .i64 t.e, .int .i64 t.r.1, .int .i64 t.r.2.1, .bool t.r.2.2.1, .bool t.r.2.2.2, .int .i64 t.q.1, .int .i64 t.q.2.1, .bool t.q.2.2.1, .bool t.q.2.2.2, .slice pp ln cl] 26)).alloc (.cells #[.int .i64 pa, .int .i64 pe] 49))) := ⟨blk13_top rfl ((Ext.refl _).alloc _), blk2_top (by simp) (Ext.refl _), HB.out.1.ext (((Ext.refl _).alloc _).alloc _), HL.out.ext (((Ext.refl _).alloc _).alloc _), (HB.out.2.alloc _).alloc _⟩
    generalize (w2.alloc (.cells #[.int .i64 t.k, .int .i64 t.n, .string (bs t.s), .int .i64 t.e, .int .i64 t.r.1, .int .i64 t.r.2.1, .bool t.r.2.2.1, .bool t.r.2.2.2, .int .i64 t.q.1, .int .i64 t.q.2.1, .bool t.q.2.2.1, .bool t.q.2.2.2, .slice pp ln cl] 26)).alloc (.cells #[.int .i64 pa, .int .i64 pe] 49) = W3 at HF ⊢
    have mkS : Hid (∀ W, ExtB w.heap.size W3 W → (W.cell? ⟨w2.heap.size, 0, none⟩ = some (.int .i64 t.k) ∧ W.cell? ⟨w2.heap.size, 1, none⟩ = some (.int .i64 t.n) ∧ W.cell? ⟨w2.heap.size, 2, none⟩ = some (.string (bs t.s)) ∧ W.cell? ⟨w2.heap.size, 3, none⟩ = some (.int .i64 t.e) ∧ W.cell? ⟨w2.heap.size, 4, none⟩ = some (.int .i64 t.r.1) ∧ W.cell? ⟨w2.heap.size, 5, none⟩ = some (.int .i64 t.r.2.1) ∧ W.cell? ⟨w2.heap.size, 6, none⟩ = some (.bool t.r.2.2.1) ∧ W.cell? ⟨w2.heap.size, 7, none⟩ = some (.bool t.r.2.2.2) ∧ W.cell? ⟨w2.heap.size, 8, none⟩ = some (.int .i64 t.q.1) ∧ W.cell? ⟨w2.heap.size, 9, none⟩ = some (.int .i64 t.q.2.1) ∧ W.cell? ⟨w2.heap.size, 10, none⟩ = some (.bool t.q.2.2.1) ∧ W.cell? ⟨w2.heap.size, 11, none⟩ = some (.bool t.q.2.2.2) ∧ W.cell? ⟨w2.heap.size, 12, none⟩ = some (.slice pp ln cl) ∧ W.cell? ⟨w2.heap.size + 1, 0, none⟩ = some (.int .i64 pa) ∧ W.cell? ⟨w2.heap.size + 1, 1, none⟩ = some (.int .i64 pe)) ∧ ExtB w.heap.size W3 W) := by
      intro W e
      have y := (HF.out.1.extB e (by omega)).2.1
      obtain ⟨u0, ⟨u1, u2⟩, _⟩ := HF.out.2.1
      exact ⟨⟨y.1, y.2.1, y.2.2.1, y.2.2.2.1, y.2.2.2.2.1, y.2.2.2.2.2.1, y.2.2.2.2.2.2.1, y.2.2.2.2.2.2.2.1, y.2.2.2.2.2.2.2.2.1, y.2.2.2.2.2.2.2.2.2.1, y.2.2.2.2.2.2.2.2.2.2.1, y.2.2.2.2.2.2.2.2.2.2.2.1, y.2.2.2.2.2.2.2.2.2.2.2.2, ((e.cell u0 (by omega) 0).1).trans u1, ((e.cell u0 (by omega) 1).1).trans u2⟩, e⟩
    have U1 := HF.out.2.2.1
    obtain ⟨qc, ⟨lc0, lc1, lc2, lc3, lc4, lc5, lc6, lc7, lc8, lc9, lc10, lc11, lc12⟩, gc0, gc1, gc2, gc3, gc4, gc5, gc6, gc7, gc8, gc9, gc10, gc11, gc12⟩ := U1
    have hE3 : ExtB w.heap.size W3 W3 := ExtB.refl _ _
    go_region_held3 (fun W => (W.cell? ⟨w2.heap.size, 0, none⟩ = some (.int .i64 t.k) ∧ W.cell? ⟨w2.heap.size, 1, none⟩ = some (.int .i64 t.n) ∧ W.cell? ⟨w2.heap.size, 2, none⟩ = some (.string (bs t.s)) ∧ W.cell? ⟨w2.heap.size, 3, none⟩ = some (.int .i64 t.e) ∧ W.cell? ⟨w2.heap.size, 4, none⟩ = some (.int .i64 t.r.1) ∧ W.cell? ⟨w2.heap.size, 5, none⟩ = some (.int .i64 t.r.2.1) ∧ W.cell? ⟨w2.heap.size, 6, none⟩ = some (.bool t.r.2.2.1) ∧ W.cell? ⟨w2.heap.size, 7, none⟩ = some (.bool t.r.2.2.2) ∧ W.cell? ⟨w2.heap.size, 8, none⟩ = some (.int .i64 t.q.1) ∧ W.cell? ⟨w2.heap.size, 9, none⟩ = some (.int .i64 t.q.2.1) ∧ W.cell? ⟨w2.heap.size, 10, none⟩ = some (.bool t.q.2.2.1) ∧ W.cell? ⟨w2.heap.size, 11, none⟩ = some (.bool t.q.2.2.2) ∧ W.cell? ⟨w2.heap.size, 12, none⟩ = some (.slice pp ln cl) ∧ W.cell? ⟨w2.heap.size + 1, 0, none⟩ = some (.int .i64 pa) ∧ W.cell? ⟨w2.heap.size + 1, 1, none⟩ = some (.int .i64 pe)) ∧ ExtB w.heap.size W3 W)
      ((refine mkS.out _ ?_; with_reducible (repeat (first | assumption | apply ExtB.drew | (refine ExtB.set ?_ (by exact Or.inl rfl) _))); done))
      (fail)
    go_wp2_with fail
    rw [show (((((((((((((W3.setCell ⟨w.heap.size, 0, none⟩ (.int .i64 t.k)).setCell ⟨w.heap.size, 1, none⟩ (.int .i64 t.n)).setCell ⟨w.heap.size, 2, none⟩ (.string (bs t.s))).setCell ⟨w.heap.size, 3, none⟩ (.int .i64 t.e)).setCell ⟨w.heap.size, 4, none⟩ (.int .i64 t.r.1)).setCell ⟨w.heap.size, 5, none⟩ (.int .i64 t.r.2.1)).setCell ⟨w.heap.size, 6, none⟩ (.bool t.r.2.2.1)).setCell ⟨w.heap.size, 7, none⟩ (.bool t.r.2.2.2)).setCell ⟨w.heap.size, 8, none⟩ (.int .i64 t.q.1)).setCell ⟨w.heap.size, 9, none⟩ (.int .i64 t.q.2.1)).setCell ⟨w.heap.size, 10, none⟩ (.bool t.q.2.2.1)).setCell ⟨w.heap.size, 11, none⟩ (.bool t.q.2.2.2)).setCell ⟨w.heap.size, 12, none⟩ (.slice pp ln cl)) = putX W3 w.heap.size t (.slice pp ln cl) from rfl]
    have HB4 := HF.out.2.2.1.put t (.slice pp ln cl)
    have HE4 : Ext w (putX W3 w.heap.size t (.slice pp ln cl)) := putX_E HF.out.2.2.2.2 (Nat.le_refl _) _ _
    have HL4 : IsL (putX W3 w.heap.size t (.slice pp ln cl)) (w.heap.size + 1 ≤ ·) (.slice pp ln cl) t.l := putX_L (g := w.heap.size) (t := t) (lv := .slice pp ln cl) HF.out.2.2.2.1 (fun k hk => by have hk2 : w.heap.size + 1 ≤ k := hk; omega)
    generalize putX W3 w.heap.size t (.slice pp ln cl) = W4 at HB4 HE4 HL4 ⊢
    obtain ⟨z, ⟨k0, k1, k2, k3, k4, k5, k6, k7, k8, k9, k10, k11, k12⟩, ff⟩ := HB4
    refine bodyPost_ret (v := .tuple #[aggX t (.slice pp ln cl), .int .i64 pa, .int .i64 pe]) (by simp [results, Tryz.results14, go_sem, k0, k1, k2, k3, k4, k5, k6, k7, k8, k9, k10, k11, k12, aggX]) rfl ?_
    unfold FormQ
    rw [HPP.out.1, HPP.out.2.1, HPP.out.2.2]
    exact ⟨_, rfl, (HL4.mono (fun k hk _ => by have hk2 : w.heap.size + 1 ≤ k := hk; omega)).ext (Ext.refl _).drew, HE4.drew⟩
  · have HPR : Hid (parR l = (tz, (lexR l).2.1, (lexR l).2.2)) := by show _ = _; unfold parR; rw [if_neg h0]
    have hne : ((lexR l).2.2 != 0) = true := by simpa using h0
    have hne2 : ((lexR l).2.2 == 0) = false := by simpa using h0
    have C1 : Calls Tryz.prog 26 #[.string s] (w.alloc (.cells #[.int .i64 0, .int .i64 0, .string ⟨#[]⟩, .int .i64 0, .int .i64 0, .int .i64 0, .bool false, .bool false, .int .i64 0, .int .i64 0, .bool false, .bool false, .slice none 0 0] 26)) fun e w' => ∃ v, e = .returned (.tuple #[v, .int .i64 (lexR l).2.1, .int .i64 (lexR l).2.2]) ∧ RdT w' v (lexR l).1 ∧ Ext (w.alloc (.cells #[.int .i64 0, .int .i64 0, .string ⟨#[]⟩, .int .i64 0, .int .i64 0, .int .i64 0, .bool false, .bool false, .int .i64 0, .int .i64 0, .bool false, .bool false, .slice none 0 0] 26)) w' := c1
    obtain ⟨pa, hpa⟩ : ∃ pa, (lexR l).2.1 = pa := ⟨_, rfl⟩
    obtain ⟨pe, hpe⟩ : ∃ pe, (lexR l).2.2 = pe := ⟨_, rfl⟩
    rw [hpa, hpe] at C1 HPR
    rw [hpe] at hne hne2
    clear c1 hpa hpe h0
    go_enter Tryz.func14, Tryz.ntmps14
    go_wp2_with fail
    refine C1.mono ?_
    rintro e w1 ⟨v, rfl, hR, E1⟩
    have HB : Hid (BlkX w1 w.heap.size tz (.slice none 0 0) ∧ Ext w w1) := ⟨BlkX.top rfl E1, ((Ext.refl w).alloc _).trans E1⟩
    obtain ⟨qa, ⟨la0, la1, la2, la3, la4, la5, la6, la7, la8, la9, la10, la11, la12⟩, ga0, ga1, ga2, ga3, ga4, ga5, ga6, ga7, ga8, ga9, ga10, ga11, ga12⟩ := HB.out.1
    clear C1 hR E1
    go_wp2_with fail
    rw [show (((((((((((((w1.setCell ⟨w.heap.size, 0, none⟩ (.int .i64 0)).setCell ⟨w.heap.size, 1, none⟩ (.int .i64 0)).setCell ⟨w.heap.size, 2, none⟩ (.string ⟨#[]⟩)).setCell ⟨w.heap.size, 3, none⟩ (.int .i64 0)).setCell ⟨w.heap.size, 4, none⟩ (.int .i64 0)).setCell ⟨w.heap.size, 5, none⟩ (.int .i64 0)).setCell ⟨w.heap.size, 6, none⟩ (.bool false)).setCell ⟨w.heap.size, 7, none⟩ (.bool false)).setCell ⟨w.heap.size, 8, none⟩ (.int .i64 0)).setCell ⟨w.heap.size, 9, none⟩ (.int .i64 0)).setCell ⟨w.heap.size, 10, none⟩ (.bool false)).setCell ⟨w.heap.size, 11, none⟩ (.bool false)).setCell ⟨w.heap.size, 12, none⟩ (.slice none 0 0)) = putX w1 w.heap.size tz (.slice none 0 0) from rfl]
    have HB2 := HB.out.1.put tz (.slice none 0 0)
    have HE2 : Ext w (putX w1 w.heap.size tz (.slice none 0 0)) := putX_E HB.out.2 (Nat.le_refl _) _ _
    generalize putX w1 w.heap.size tz (.slice none 0 0) = W2 at *
    obtain ⟨z, ⟨k0, k1, k2, k3, k4, k5, k6, k7, k8, k9, k10, k11, k12⟩, ff⟩ := HB2
    refine bodyPost_ret (v := .tuple #[aggX tz (.slice none 0 0), .int .i64 pa, .int .i64 pe]) (by simp [results, Tryz.results14, go_sem, k0, k1, k2, k3, k4, k5, k6, k7, k8, k9, k10, k11, k12, aggX]) rfl ?_
    unfold FormQ
    rw [HPR.out]
    exact ⟨_, rfl, .nil, HE2⟩
end Go.Proofs.YtmapfpeaaipdoaaGreatDoor

namespace Go.Proofs.YtmapfpeaaipdoaaGreatDoor
/-- A tree with not too many parts, and so on within. -/
inductive Bd : T → Prop
  | mk (t : T) : t.l.length ≤ 20 → (∀ x ∈ t.l, Bd x) → Bd t
end Go.Proofs.YtmapfpeaaipdoaaGreatDoor
