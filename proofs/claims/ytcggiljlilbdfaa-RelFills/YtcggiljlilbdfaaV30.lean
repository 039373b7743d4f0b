/-
 Same says yes of two trees that are one.
 Package parse's Same and Deep, of any trees.
 Which trees are well made, as far as lives asks; lives.
-/
import Derived.Test.YtcggiljlilbdfaaV29
import Derived.Test.YtcggiljlilbdfaaV24
namespace Go.Proofs.Ytcggiljlilbdfaa
open Go.RowKit
set_option maxHeartbeats 6000000

/-- A tree's parts, if its kind has some. -/
def ptV (t : T) (v : Value) : Value := if t.k = 6 ∨ t.k = 7 ∨ t.k = 8 then v else .slice none 0 0
theorem ptV_yes {t : T} (h : t.k = 6 ∨ t.k = 7 ∨ t.k = 8) (v : Value) : ptV t v = v := if_pos h
theorem ptV_no {t : T} (h : ¬ (t.k = 6 ∨ t.k = 7 ∨ t.k = 8)) (v : Value) : ptV t v = .slice none 0 0 := if_neg h
theorem xparts_any (t : T) (pp : Option Addr) (ln cl : Nat) (W : World) : Calls Try.prog 76 #[.agg #[.int .i64 t.k, .int .i64 t.n, .string (bs t.s), .int .i64 t.e, .int .i64 t.r.1, .int .i64 t.r.2.1, .bool t.r.2.2.1, .bool t.r.2.2.2, .int .i64 t.q.1, .int .i64 t.q.2.1, .bool t.q.2.2.1, .bool t.q.2.2.2, .slice pp ln cl]] W fun e w' => e = .returned (ptV t (.slice pp ln cl)) ∧ Ext W w' := by
 by_cases h6 : t.k = 6
 · have e6 : (t.k == 6) = true := by rw [h6]; rfl
   rw [ptV_yes (.inl h6)]
   clear h6
   go_enter Try.func76, Try.ntmps76
   go_wp2_with fail
   go_ret
   exact ⟨rfl, (Ext.refl _).alloc _⟩
 by_cases h7 : t.k = 7
 · have e6 : (t.k == 6) = false := by rw [h7]; rfl
   have e7 : (t.k == 7) = true := by rw [h7]; rfl
   rw [ptV_yes (.inr (.inl h7))]
   clear h6 h7
   go_enter Try.func76, Try.ntmps76
   go_wp2_with fail
   go_ret
   exact ⟨rfl, (Ext.refl _).alloc _⟩
 by_cases h8 : t.k = 8
 · have e6 : (t.k == 6) = false := by rw [h8]; rfl
   have e7 : (t.k == 7) = false := by rw [h8]; rfl
   have e8 : (t.k == 8) = true := by rw [h8]; rfl
   rw [ptV_yes (.inr (.inr h8))]
   clear h6 h7 h8
   go_enter Try.func76, Try.ntmps76
   go_wp2_with fail
   go_ret
   exact ⟨rfl, (Ext.refl _).alloc _⟩
 have e6 : (t.k == 6) = false := by simpa using h6
 have e7 : (t.k == 7) = false := by simpa using h7
 have e8 : (t.k == 8) = false := by simpa using h8
 rw [ptV_no (by omega)]
 clear h6 h7 h8
 go_enter Try.func76, Try.ntmps76
 go_wp2_with fail
 go_ret
 exact ⟨rfl, (Ext.refl _).alloc _⟩

open Go.RowKit
set_option maxHeartbeats 6000000

set_option maxRecDepth 100000 in
theorem equal_any (P : Nat → Prop) (n : Nat) (l m : List T) (pp qq : Option Addr) (ln cl lm cm : Nat) (w : World) (hl : l.length ≤ 100000) (hx : ∀ x ∈ l, SmC 45 P n x) (h : IsL w P (.slice pp ln cl) l) (h' : IsL w P (.slice qq lm cm) m) :
   Calls Try.prog 75 #[.slice pp ln cl, .slice qq lm cm, .func (.func 45) #[] #[]] w fun e w' => e = .returned (.bool (allZ (sameT n) l m)) ∧ Ext w w' := by
 have hln : l.length = ln := by
   obtain ⟨p, c, h1, _⟩ := h.form
   cases h1; rfl
 have hlm : m.length = lm := by
   obtain ⟨p, c, h1, _⟩ := h'.form
   cases h1; rfl
 have hent : ∀ args W, (callFunc 45 args).run Try.prog W = .ok (.enter 45 args) W := enters_of Try.func45 (by kernel_rfl) rfl
 have hl2 : ln ≤ 100000 := by omega
 by_cases hnl : ¬ ln = lm
 · have hnn : ((ln : Int) != (lm : Int)) = true := by simp; omega
   have HX : Hid (allZ (sameT n) l m = false) := allZ_len _ _ _ (by omega)
   clear hx h h' hln hlm hl hnl hent
   go_enter Try.func75, Try.ntmps75
   go_wp2_with fail
   go_ret
   exact ⟨ret_bool (by rw [HX.out]), Ext.refl _⟩
 have hll : ln = lm := Decidable.not_not.1 hnl
 clear hnl
 subst hll
 have HX : Hid (∀ x ∈ l, SmC 45 P n x) := hx
 have HI : Hid (IsL w P (.slice pp ln cl) l ∧ IsL w P (.slice qq ln cm) m) := ⟨h, h'⟩
 have HLN : Hid (l.length = ln ∧ m.length = ln) := ⟨hln, hlm⟩
 have hnn : ((ln : Int) != (ln : Int)) = false := by simp
 have hnm : ((ln : Int) == (ln : Int)) = true := by simp
 clear hx h h' hln hlm hl
 go_enter Try.func75, Try.ntmps75
 go_wp2_with fail
 go_loopw [7, 8, 9, 17] (fun _ _ _ i wr => ∃ j : Nat, j ≤ ln ∧ i = .int .i64 (j : Int) ∧ allZ (sameT n) (l.take j) (m.take j) = true ∧ Ext w wr) (fun _ _ _ i _ => ln - (intOf i).toNat)
 case atStart => exact ⟨0, Nat.zero_le _, rfl, rfl, Ext.refl _⟩
 case round =>
   obtain ⟨j, hj, rfl, hg, hE⟩ := hrel
   have HE : Hid (Ext w wr ∧ allZ (sameT n) (l.take j) (m.take j) = true) := ⟨hE, hg⟩
   clear hE hg
   by_cases hlt : j < ln
   · have hltI : (j : Int) < (ln : Int) := by omega
     obtain ⟨gb, off, x, lv, hpp, hx1, hA1, hgb, hA2, hLx, he⟩ := (HI.out.1.ext HE.out.1).at (i := j) (by rw [HLN.out.1]; exact hlt)
     obtain ⟨gc, ofc, y, lu, hqq, hy1, hA3, hgc, hA4, hLy, hf⟩ := (HI.out.2.ext HE.out.1).at (i := j) (by rw [HLN.out.2]; exact hlt)
     subst hpp
     subst hqq
     obtain ⟨p1, c1, hlv, hcl⟩ := hLx.form
     obtain ⟨p2, c2, hlu, hcm⟩ := hLy.form
     obtain ⟨l1, hl1⟩ : ∃ l1, x.l.length = l1 := ⟨_, rfl⟩
     obtain ⟨l2, hl2'⟩ : ∃ l2, y.l.length = l2 := ⟨_, rfl⟩
     rw [hl1] at hlv
     rw [hl2'] at hlu
     subst hlv
     subst hlu
     have HX1 : Hid (l[j]? = some x ∧ m[j]? = some y) := ⟨hx1, hy1⟩
     have HC : Hid (∀ V, Ext wr V → Calls Try.prog 45 #[.agg #[.int .i64 x.k, .int .i64 x.n, .string (bs x.s), .int .i64 x.e, .int .i64 x.r.1, .int .i64 x.r.2.1, .bool x.r.2.2.1, .bool x.r.2.2.2, .int .i64 x.q.1, .int .i64 x.q.2.1, .bool x.q.2.2.1, .bool x.q.2.2.2, .slice p1 l1 c1], .agg #[.int .i64 y.k, .int .i64 y.n, .string (bs y.s), .int .i64 y.e, .int .i64 y.r.1, .int .i64 y.r.2.1, .bool y.r.2.2.1, .bool y.r.2.2.2, .int .i64 y.q.1, .int .i64 y.q.2.1, .bool y.q.2.2.1, .bool y.q.2.2.2, .slice p2 l2 c2]] V fun e w' => e = .returned (.bool (sameT n x y)) ∧ Ext V w') := fun V e => HX.out x (List.mem_of_getElem? hx1) y V p1 p2 l1 c1 l2 c2 (hLx.ext e) (hLy.ext e)
     have e0 : wr.cell? ⟨gb, off + j * 13, none⟩ = some (.int .i64 x.k) := he 0 _ rfl
     have e1 : wr.cell? ⟨gb, off + j * 13 + 1, none⟩ = some (.int .i64 x.n) := he 1 _ rfl
     have e2 : wr.cell? ⟨gb, off + j * 13 + 2, none⟩ = some (.string (bs x.s)) := he 2 _ rfl
     have e3 : wr.cell? ⟨gb, off + j * 13 + 3, none⟩ = some (.int .i64 x.e) := he 3 _ rfl
     have e4 : wr.cell? ⟨gb, off + j * 13 + 4, none⟩ = some (.int .i64 x.r.1) := he 4 _ rfl
     have e5 : wr.cell? ⟨gb, off + j * 13 + 5, none⟩ = some (.int .i64 x.r.2.1) := he 5 _ rfl
     have e6 : wr.cell? ⟨gb, off + j * 13 + 6, none⟩ = some (.bool x.r.2.2.1) := he 6 _ rfl
     have e7 : wr.cell? ⟨gb, off + j * 13 + 7, none⟩ = some (.bool x.r.2.2.2) := he 7 _ rfl
     have e8 : wr.cell? ⟨gb, off + j * 13 + 8, none⟩ = some (.int .i64 x.q.1) := he 8 _ rfl
     have e9 : wr.cell? ⟨gb, off + j * 13 + 9, none⟩ = some (.int .i64 x.q.2.1) := he 9 _ rfl
     have e10 : wr.cell? ⟨gb, off + j * 13 + 10, none⟩ = some (.bool x.q.2.2.1) := he 10 _ rfl
     have e11 : wr.cell? ⟨gb, off + j * 13 + 11, none⟩ = some (.bool x.q.2.2.2) := he 11 _ rfl
     have e12 : wr.cell? ⟨gb, off + j * 13 + 12, none⟩ = some (.slice p1 l1 c1) := he 12 _ rfl
     have f0 : wr.cell? ⟨gc, ofc + j * 13, none⟩ = some (.int .i64 y.k) := hf 0 _ rfl
     have f1 : wr.cell? ⟨gc, ofc + j * 13 + 1, none⟩ = some (.int .i64 y.n) := hf 1 _ rfl
     have f2 : wr.cell? ⟨gc, ofc + j * 13 + 2, none⟩ = some (.string (bs y.s)) := hf 2 _ rfl
     have f3 : wr.cell? ⟨gc, ofc + j * 13 + 3, none⟩ = some (.int .i64 y.e) := hf 3 _ rfl
     have f4 : wr.cell? ⟨gc, ofc + j * 13 + 4, none⟩ = some (.int .i64 y.r.1) := hf 4 _ rfl
     have f5 : wr.cell? ⟨gc, ofc + j * 13 + 5, none⟩ = some (.int .i64 y.r.2.1) := hf 5 _ rfl
     have f6 : wr.cell? ⟨gc, ofc + j * 13 + 6, none⟩ = some (.bool y.r.2.2.1) := hf 6 _ rfl
     have f7 : wr.cell? ⟨gc, ofc + j * 13 + 7, none⟩ = some (.bool y.r.2.2.2) := hf 7 _ rfl
     have f8 : wr.cell? ⟨gc, ofc + j * 13 + 8, none⟩ = some (.int .i64 y.q.1) := hf 8 _ rfl
     have f9 : wr.cell? ⟨gc, ofc + j * 13 + 9, none⟩ = some (.int .i64 y.q.2.1) := hf 9 _ rfl
     have f10 : wr.cell? ⟨gc, ofc + j * 13 + 10, none⟩ = some (.bool y.q.2.2.1) := hf 10 _ rfl
     have f11 : wr.cell? ⟨gc, ofc + j * 13 + 11, none⟩ = some (.bool y.q.2.2.2) := hf 11 _ rfl
     have f12 : wr.cell? ⟨gc, ofc + j * 13 + 12, none⟩ = some (.slice p2 l2 c2) := hf 12 _ rfl
     clear hx1 hy1 hLx hLy he hf hcl hcm hl1 hl2' hA1 hA2 hA3 hA4
     go_wp2_with fail
     refine (HC.out _ (((Ext.refl _).alloc _).alloc _)).mono ?_
     rintro e w1 ⟨rfl, E1⟩
     have HE1 : Hid (Ext w w1) := ((HE.out.1.alloc _).alloc _).trans E1
     clear E1 e0 e1 e2 e3 e4 e5 e6 e7 e8 e9 e10 e11 e12 f0 f1 f2 f3 f4 f5 f6 f7 f8 f9 f10 f11 f12
     cases hgx : sameT n x y
     · have HR : Hid (allZ (sameT n) l m = false) := allZ_no _ _ _ j x y HX1.out.1 HX1.out.2 hgx
       clear hgx
       go_wp2_with fail
       go_ret
       exact ⟨ret_bool (by rw [HR.out]), HE1.out⟩
     · have HR : Hid (allZ (sameT n) (l.take (j + 1)) (m.take (j + 1)) = true) := by show _ = _; rw [allZ_take _ _ _ j x y HX1.out.1 HX1.out.2, HE.out.2, hgx]; rfl
       clear hgx
       go_wp2_with fail
       go_roundw
       case rel => exact ⟨j + 1, by omega, by go_num, HR.out, HE1.out⟩
       case measure => show ln - ((j : Int) + 1).toNat < ln - ((j : Int)).toNat; omega
   · have hltI : ¬ (j : Int) < (ln : Int) := by omega
     have HR : Hid (allZ (sameT n) l m = true) := by
       show _ = _
       have := HE.out.2
       rw [List.take_of_length_le (by have := HLN.out.1; omega), List.take_of_length_le (by have := HLN.out.2; omega)] at this
       exact this
     go_wp2_with fail
     go_ret
     exact ⟨ret_bool (by rw [HR.out]), HE.out.1⟩
set_option maxRecDepth 100000 in
theorem psame_step (P : Nat → Prop) (n : Nat) (a : T) (hl : a.l.length ≤ 100000) (hx : ∀ x ∈ a.l, SmC 45 P n x) : SmC 45 P (n + 1) a := by
 intro b W pp qq ln cl lm cm hI hJ
 have eR := fun W => eq_rf a.r b.r W
 have eQ := fun W => eq_rf a.q b.q W
 by_cases hnb : ¬ a.k = b.k
 · have hkb := hnb
   clear hnb
   have kn : (a.k != b.k) = true := by simpa using hkb
   have HX : Hid (sameT (n + 1) a b = false) := by show _ = _; unfold sameT; rw [if_pos hkb]
   clear hkb hI hJ hl hx eR eQ
   go_enter Try.func45, Try.ntmps45
   go_wp2_with fail
   go_ret
   exact ⟨ret_bool (by rw [HX.out]), ((Ext.refl _).alloc _).alloc _⟩
 have hkb : a.k = b.k := Decidable.not_not.1 hnb
 clear hnb
 have kn : (a.k != b.k) = false := by rw [hkb]; simp
 by_cases hk : a.k = 0
 · have e0 : (a.k == 0) = true := by rw [hk]; rfl
   have e2 : (a.k == 2) = false := by rw [hk]; rfl
   have e1 : (a.k == 1) = false := by rw [hk]; rfl
   have e3 : (a.k == 3) = false := by rw [hk]; rfl
   have e4 : (a.k == 4) = false := by rw [hk]; rfl
   have e5 : (a.k == 5) = false := by rw [hk]; rfl
   have e7 : (a.k == 7) = false := by rw [hk]; rfl
   have e8 : (a.k == 8) = false := by rw [hk]; rfl
   have HX : Hid (sameT (n + 1) a b = (a.n == b.n)) := by show _ = _; unfold sameT; rw [if_neg (by rw [← hkb]; simp)]; simp [hk]
   clear hk hkb hI hJ hl hx eR eQ
   go_enter Try.func45, Try.ntmps45
   go_wp2_with fail
   go_ret
   exact ⟨ret_bool (by rw [HX.out]), ((Ext.refl _).alloc _).alloc _⟩
 have n0 := hk
 clear hk
 by_cases hk : a.k = 2
 · have e0 : (a.k == 0) = false := by rw [hk]; rfl
   have e2 : (a.k == 2) = true := by rw [hk]; rfl
   have e1 : (a.k == 1) = false := by rw [hk]; rfl
   have e3 : (a.k == 3) = false := by rw [hk]; rfl
   have e4 : (a.k == 4) = false := by rw [hk]; rfl
   have e5 : (a.k == 5) = false := by rw [hk]; rfl
   have e7 : (a.k == 7) = false := by rw [hk]; rfl
   have e8 : (a.k == 8) = false := by rw [hk]; rfl
   have HX : Hid (sameT (n + 1) a b = (a.n == b.n)) := by show _ = _; unfold sameT; rw [if_neg (by rw [← hkb]; simp)]; simp [hk]
   clear hk hkb hI hJ hl hx eR eQ
   go_enter Try.func45, Try.ntmps45
   go_wp2_with fail
   go_ret
   exact ⟨ret_bool (by rw [HX.out]), ((Ext.refl _).alloc _).alloc _⟩
 have n2 := hk
 clear hk
 by_cases hk : a.k = 1
 · have e0 : (a.k == 0) = false := by rw [hk]; rfl
   have e2 : (a.k == 2) = false := by rw [hk]; rfl
   have e1 : (a.k == 1) = true := by rw [hk]; rfl
   have e3 : (a.k == 3) = false := by rw [hk]; rfl
   have e4 : (a.k == 4) = false := by rw [hk]; rfl
   have e5 : (a.k == 5) = false := by rw [hk]; rfl
   have e7 : (a.k == 7) = false := by rw [hk]; rfl
   have e8 : (a.k == 8) = false := by rw [hk]; rfl
   have HX : Hid (sameT (n + 1) a b = (a.s == b.s)) := by show _ = _; unfold sameT; rw [if_neg (by rw [← hkb]; simp)]; simp [hk]
   have es : ((bs a.s).toList == (bs b.s).toList) = (a.s == b.s) := by rw [bs_tl9, bs_tl9]
   generalize bs a.s = qa at *
   generalize bs b.s = qb at *
   clear hk hkb hI hJ hl hx eR eQ
   go_enter Try.func45, Try.ntmps45
   go_wp2_with fail
   go_ret
   exact ⟨ret_bool (by rw [HX.out]), ((Ext.refl _).alloc _).alloc _⟩
 have n1 := hk
 clear hk
 by_cases hk : a.k = 3
 · have e0 : (a.k == 0) = false := by rw [hk]; rfl
   have e2 : (a.k == 2) = false := by rw [hk]; rfl
   have e1 : (a.k == 1) = false := by rw [hk]; rfl
   have e3 : (a.k == 3) = true := by rw [hk]; rfl
   have e4 : (a.k == 4) = false := by rw [hk]; rfl
   have e5 : (a.k == 5) = false := by rw [hk]; rfl
   have e7 : (a.k == 7) = false := by rw [hk]; rfl
   have e8 : (a.k == 8) = false := by rw [hk]; rfl
   have HX : Hid (sameT (n + 1) a b = (a.e == b.e)) := by show _ = _; unfold sameT; rw [if_neg (by rw [← hkb]; simp)]; simp [hk]
   clear hk hkb hI hJ hl hx eR eQ
   go_enter Try.func45, Try.ntmps45
   go_wp2_with fail
   go_ret
   exact ⟨ret_bool (by rw [HX.out]), ((Ext.refl _).alloc _).alloc _⟩
 have n3 := hk
 clear hk
 by_cases hk : a.k = 4
 · have e0 : (a.k == 0) = false := by rw [hk]; rfl
   have e2 : (a.k == 2) = false := by rw [hk]; rfl
   have e1 : (a.k == 1) = false := by rw [hk]; rfl
   have e3 : (a.k == 3) = false := by rw [hk]; rfl
   have e4 : (a.k == 4) = true := by rw [hk]; rfl
   have e5 : (a.k == 5) = false := by rw [hk]; rfl
   have e7 : (a.k == 7) = false := by rw [hk]; rfl
   have e8 : (a.k == 8) = false := by rw [hk]; rfl
   have HX : Hid (sameT (n + 1) a b = decide (a.r = b.r)) := by show _ = _; unfold sameT; rw [if_neg (by rw [← hkb]; simp)]; simp [hk]
   have g1 := gd_rf
   clear hk hkb hI hJ hl hx
   go_enter Try.func45, Try.ntmps45
   go_wp2_with fail
   go_ret
   exact ⟨ret_bool (by rw [HX.out]), ((Ext.refl _).alloc _).alloc _⟩
 have n4 := hk
 clear hk
 by_cases hk : a.k = 5
 · have e0 : (a.k == 0) = false := by rw [hk]; rfl
   have e2 : (a.k == 2) = false := by rw [hk]; rfl
   have e1 : (a.k == 1) = false := by rw [hk]; rfl
   have e3 : (a.k == 3) = false := by rw [hk]; rfl
   have e4 : (a.k == 4) = false := by rw [hk]; rfl
   have e5 : (a.k == 5) = true := by rw [hk]; rfl
   have e7 : (a.k == 7) = false := by rw [hk]; rfl
   have e8 : (a.k == 8) = false := by rw [hk]; rfl
   have HX : Hid (sameT (n + 1) a b = (decide (a.r = b.r) && decide (a.q = b.q))) := by show _ = _; unfold sameT; rw [if_neg (by rw [← hkb]; simp)]; simp [hk]
   have g1 := gd_rf
   clear hk hkb hI hJ hl hx
   cases hr : decide (a.r = b.r)
   · rw [hr] at HX eR
     clear hr
     go_enter Try.func45, Try.ntmps45
     go_wp2_with fail
     go_ret
     exact ⟨ret_bool (by rw [HX.out]; rfl), ((Ext.refl _).alloc _).alloc _⟩
   · rw [hr] at HX eR
     clear hr
     go_enter Try.func45, Try.ntmps45
     go_wp2_with fail
     go_ret
     exact ⟨ret_bool (by rw [HX.out]; rfl), ((Ext.refl _).alloc _).alloc _⟩
 have n5 := hk
 clear hk
 by_cases hk : a.k = 6
 · have e0 : (a.k == 0) = false := by rw [hk]; rfl
   have e2 : (a.k == 2) = false := by rw [hk]; rfl
   have e1 : (a.k == 1) = false := by rw [hk]; rfl
   have e3 : (a.k == 3) = false := by rw [hk]; rfl
   have e4 : (a.k == 4) = false := by rw [hk]; rfl
   have e5 : (a.k == 5) = false := by rw [hk]; rfl
   have e7 : (a.k == 7) = false := by rw [hk]; rfl
   have e8 : (a.k == 8) = false := by rw [hk]; rfl
   have cP := fun W => xparts_any a pp ln cl W
   have cQ := fun W => xparts_any b qq lm cm W
   rw [ptV_yes (show a.k = 6 ∨ a.k = 7 ∨ a.k = 8 by omega)] at cP
   rw [ptV_yes (show b.k = 6 ∨ b.k = 7 ∨ b.k = 8 by omega)] at cQ
   have HEQ : Hid (∀ V, Ext W V → Calls Try.prog 75 #[.slice pp ln cl, .slice qq lm cm, .func (.func 45) #[] #[]] V fun e w' => e = .returned (.bool (allZ (sameT n) a.l b.l)) ∧ Ext V w') := fun V e => equal_any P n a.l b.l pp qq ln cl lm cm V hl hx (hI.ext e) (hJ.ext e)
   have HX : Hid (sameT (n + 1) a b = allZ (sameT n) a.l b.l) := by show _ = _; unfold sameT; rw [if_neg (by rw [← hkb]; simp)]; simp [hk]
   clear hk hkb hI hJ hl hx eR eQ
   go_enter Try.func45, Try.ntmps45
   go_wp2_with fail
   have HF : Hid (BlkX ((W.alloc (.cells #[.int .i64 a.k, .int .i64 a.n, .string (bs a.s), .int .i64 a.e, .int .i64 a.r.1, .int .i64 a.r.2.1, .bool a.r.2.2.1, .bool a.r.2.2.2, .int .i64 a.q.1, .int .i64 a.q.2.1, .bool a.q.2.2.1, .bool a.q.2.2.2, .slice pp ln cl] 26)).alloc (.cells #[.int .i64 b.k, .int .i64 b.n, .string (bs b.s), .int .i64 b.e, .int .i64 b.r.1, .int .i64 b.r.2.1, .bool b.r.2.2.1, .bool b.r.2.2.2, .int .i64 b.q.1, .int .i64 b.q.2.1, .bool b.q.2.2.1, .bool b.q.2.2.2, .slice qq lm cm] 26)) W.heap.size a (.slice pp ln cl) ∧ BlkX ((W.alloc (.cells #[.int .i64 a.k, .int .i64 a.n, .string (bs a.s), .int .i64 a.e, .int .i64 a.r.1, .int .i64 a.r.2.1, .bool a.r.2.2.1, .bool a.r.2.2.2, .int .i64 a.q.1, .int .i64 a.q.2.1, .bool a.q.2.2.1, .bool a.q.2.2.2, .slice pp ln cl] 26)).alloc (.cells #[.int .i64 b.k, .int .i64 b.n, .string (bs b.s), .int .i64 b.e, .int .i64 b.r.1, .int .i64 b.r.2.1, .bool b.r.2.2.1, .bool b.r.2.2.2, .int .i64 b.q.1, .int .i64 b.q.2.1, .bool b.q.2.2.1, .bool b.q.2.2.2, .slice qq lm cm] 26)) (W.heap.size + 1) b (.slice qq lm cm) ∧ Ext W ((W.alloc (.cells #[.int .i64 a.k, .int .i64 a.n, .string (bs a.s), .int .i64 a.e, .int .i64 a.r.1, .int .i64 a.r.2.1, .bool a.r.2.2.1, .bool a.r.2.2.2, .int .i64 a.q.1, .int .i64 a.q.2.1, .bool a.q.2.2.1, .bool a.q.2.2.2, .slice pp ln cl] 26)).alloc (.cells #[.int .i64 b.k, .int .i64 b.n, .string (bs b.s), .int .i64 b.e, .int .i64 b.r.1, .int .i64 b.r.2.1, .bool b.r.2.2.1, .bool b.r.2.2.2, .int .i64 b.q.1, .int .i64 b.q.2.1, .bool b.q.2.2.1, .bool b.q.2.2.2, .slice qq lm cm] 26))) := ⟨blk13_top rfl ((Ext.refl _).alloc _), blk13_top (by simp) (Ext.refl _), ((Ext.refl _).alloc _).alloc _⟩
   generalize ((W.alloc (.cells #[.int .i64 a.k, .int .i64 a.n, .string (bs a.s), .int .i64 a.e, .int .i64 a.r.1, .int .i64 a.r.2.1, .bool a.r.2.2.1, .bool a.r.2.2.2, .int .i64 a.q.1, .int .i64 a.q.2.1, .bool a.q.2.2.1, .bool a.q.2.2.2, .slice pp ln cl] 26)).alloc (.cells #[.int .i64 b.k, .int .i64 b.n, .string (bs b.s), .int .i64 b.e, .int .i64 b.r.1, .int .i64 b.r.2.1, .bool b.r.2.2.1, .bool b.r.2.2.2, .int .i64 b.q.1, .int .i64 b.q.2.1, .bool b.q.2.2.1, .bool b.q.2.2.2, .slice qq lm cm] 26)) = W2 at *
   have mkS : Hid (∀ V, Ext W2 V → V.cell? ⟨W.heap.size, 0, none⟩ = some (.int .i64 a.k) ∧ V.cell? ⟨W.heap.size, 1, none⟩ = some (.int .i64 a.n) ∧ V.cell? ⟨W.heap.size, 2, none⟩ = some (.string (bs a.s)) ∧ V.cell? ⟨W.heap.size, 3, none⟩ = some (.int .i64 a.e) ∧ V.cell? ⟨W.heap.size, 4, none⟩ = some (.int .i64 a.r.1) ∧ V.cell? ⟨W.heap.size, 5, none⟩ = some (.int .i64 a.r.2.1) ∧ V.cell? ⟨W.heap.size, 6, none⟩ = some (.bool a.r.2.2.1) ∧ V.cell? ⟨W.heap.size, 7, none⟩ = some (.bool a.r.2.2.2) ∧ V.cell? ⟨W.heap.size, 8, none⟩ = some (.int .i64 a.q.1) ∧ V.cell? ⟨W.heap.size, 9, none⟩ = some (.int .i64 a.q.2.1) ∧ V.cell? ⟨W.heap.size, 10, none⟩ = some (.bool a.q.2.2.1) ∧ V.cell? ⟨W.heap.size, 11, none⟩ = some (.bool a.q.2.2.2) ∧ V.cell? ⟨W.heap.size, 12, none⟩ = some (.slice pp ln cl) ∧ V.cell? ⟨W.heap.size + 1, 0, none⟩ = some (.int .i64 b.k) ∧ V.cell? ⟨W.heap.size + 1, 1, none⟩ = some (.int .i64 b.n) ∧ V.cell? ⟨W.heap.size + 1, 2, none⟩ = some (.string (bs b.s)) ∧ V.cell? ⟨W.heap.size + 1, 3, none⟩ = some (.int .i64 b.e) ∧ V.cell? ⟨W.heap.size + 1, 4, none⟩ = some (.int .i64 b.r.1) ∧ V.cell? ⟨W.heap.size + 1, 5, none⟩ = some (.int .i64 b.r.2.1) ∧ V.cell? ⟨W.heap.size + 1, 6, none⟩ = some (.bool b.r.2.2.1) ∧ V.cell? ⟨W.heap.size + 1, 7, none⟩ = some (.bool b.r.2.2.2) ∧ V.cell? ⟨W.heap.size + 1, 8, none⟩ = some (.int .i64 b.q.1) ∧ V.cell? ⟨W.heap.size + 1, 9, none⟩ = some (.int .i64 b.q.2.1) ∧ V.cell? ⟨W.heap.size + 1, 10, none⟩ = some (.bool b.q.2.2.1) ∧ V.cell? ⟨W.heap.size + 1, 11, none⟩ = some (.bool b.q.2.2.2) ∧ V.cell? ⟨W.heap.size + 1, 12, none⟩ = some (.slice qq lm cm)) := fun V e => by
     obtain ⟨qz, ⟨k0, k1, k2, k3, k4, k5, k6, k7, k8, k9, k10, k11, k12⟩, gz⟩ := HF.out.1.ext e
     obtain ⟨qy, ⟨m0, m1, m2, m3, m4, m5, m6, m7, m8, m9, m10, m11, m12⟩, gy⟩ := HF.out.2.1.ext e
     exact ⟨k0, k1, k2, k3, k4, k5, k6, k7, k8, k9, k10, k11, k12, m0, m1, m2, m3, m4, m5, m6, m7, m8, m9, m10, m11, m12⟩
   refine wp_region_held_drew (S := (fun V => V.cell? ⟨W.heap.size, 0, none⟩ = some (.int .i64 a.k) ∧ V.cell? ⟨W.heap.size, 1, none⟩ = some (.int .i64 a.n) ∧ V.cell? ⟨W.heap.size, 2, none⟩ = some (.string (bs a.s)) ∧ V.cell? ⟨W.heap.size, 3, none⟩ = some (.int .i64 a.e) ∧ V.cell? ⟨W.heap.size, 4, none⟩ = some (.int .i64 a.r.1) ∧ V.cell? ⟨W.heap.size, 5, none⟩ = some (.int .i64 a.r.2.1) ∧ V.cell? ⟨W.heap.size, 6, none⟩ = some (.bool a.r.2.2.1) ∧ V.cell? ⟨W.heap.size, 7, none⟩ = some (.bool a.r.2.2.2) ∧ V.cell? ⟨W.heap.size, 8, none⟩ = some (.int .i64 a.q.1) ∧ V.cell? ⟨W.heap.size, 9, none⟩ = some (.int .i64 a.q.2.1) ∧ V.cell? ⟨W.heap.size, 10, none⟩ = some (.bool a.q.2.2.1) ∧ V.cell? ⟨W.heap.size, 11, none⟩ = some (.bool a.q.2.2.2) ∧ V.cell? ⟨W.heap.size, 12, none⟩ = some (.slice pp ln cl) ∧ V.cell? ⟨W.heap.size + 1, 0, none⟩ = some (.int .i64 b.k) ∧ V.cell? ⟨W.heap.size + 1, 1, none⟩ = some (.int .i64 b.n) ∧ V.cell? ⟨W.heap.size + 1, 2, none⟩ = some (.string (bs b.s)) ∧ V.cell? ⟨W.heap.size + 1, 3, none⟩ = some (.int .i64 b.e) ∧ V.cell? ⟨W.heap.size + 1, 4, none⟩ = some (.int .i64 b.r.1) ∧ V.cell? ⟨W.heap.size + 1, 5, none⟩ = some (.int .i64 b.r.2.1) ∧ V.cell? ⟨W.heap.size + 1, 6, none⟩ = some (.bool b.r.2.2.1) ∧ V.cell? ⟨W.heap.size + 1, 7, none⟩ = some (.bool b.r.2.2.2) ∧ V.cell? ⟨W.heap.size + 1, 8, none⟩ = some (.int .i64 b.q.1) ∧ V.cell? ⟨W.heap.size + 1, 9, none⟩ = some (.int .i64 b.q.2.1) ∧ V.cell? ⟨W.heap.size + 1, 10, none⟩ = some (.bool b.q.2.2.1) ∧ V.cell? ⟨W.heap.size + 1, 11, none⟩ = some (.bool b.q.2.2.2) ∧ V.cell? ⟨W.heap.size + 1, 12, none⟩ = some (.slice qq lm cm))) (by kernel_rfl) ?_ (fun hHeld0 => ?_)
   · (refine mkS.out _ ?_; ((with_reducible (repeat (first | assumption | exact Ext.refl _ | apply Ext.alloc | apply Ext.drew | apply Ext.drewN))); done))
   refine wpAnyH_take (i := 0) (oi := ⟨some 63, .load 26 (.tmp 2), 26, "parse.go:93", #[], none⟩) (v := ?_) rfl (by kernel_rfl) (by kernel_rfl) (by kernel_rfl) (fun _ _ _ h => h) (Or.inl ⟨by rfl, ?_⟩) (by assumption) ?_
   rotate_left
   · intro w hSw; (try dsimp only at hSw); first | (go_simp; done) | (go_simp; with_reducible rfl)
   try simp only [Act.put, List.setIfInBounds_toArray, List.set_cons_zero, List.set_cons_succ]
   refine wpAnyH_take (i := 2) (oi := ⟨some 65, .load 26 (.tmp 3), 26, "parse.go:93", #[], none⟩) (v := ?_) rfl (by kernel_rfl) (by kernel_rfl) (by kernel_rfl) (fun _ _ _ h => h) (Or.inl ⟨by rfl, ?_⟩) (by assumption) ?_
   rotate_left
   · intro w hSw; (try dsimp only at hSw); first | (go_simp; done) | (go_simp; with_reducible rfl)
   try simp only [Act.put, List.setIfInBounds_toArray, List.set_cons_zero, List.set_cons_succ]
   refine wpAnyH_ready (rs := [1]) (by kernel_rfl) (by simp) ?_
   refine AllReadyH.cons (o := ⟨some 64, .call { callee := .value (.func 76), args := #[.tmp 63], argTypes := #[26] }, 24, "parse.go:93", #[⟨0, .data⟩], none⟩) rfl (fun K hK => ?_) AllReadyH.nil
   go_simp
   (go_at_call 76; refine Calls.mono (cP _) ?_; rintro e y1 ⟨rfl, E1⟩; have X1 : Ext W2 y1 := Ext.trans (by with_reducible repeat (first | assumption | exact Ext.refl _ | apply Ext.alloc | apply Ext.drew | apply Ext.drewN)) E1)
   try go_wp2_with fail
   refine hK.out _ _ ?_ (fun hHeld1 => ?_)
   · (try dsimp only); (refine mkS.out _ ?_; ((with_reducible (repeat (first | assumption | exact Ext.refl _ | apply Ext.alloc | apply Ext.drew | apply Ext.drewN))); done))
   clear hK K hHeld0
   try simp only [Act.put, List.setIfInBounds_toArray, List.set_cons_zero, List.set_cons_succ]
   refine wpAnyH_ready (rs := [3]) (by kernel_rfl) (by simp) ?_
   refine AllReadyH.cons (o := ⟨some 66, .call { callee := .value (.func 76), args := #[.tmp 65], argTypes := #[26] }, 24, "parse.go:93", #[⟨2, .data⟩, ⟨1, .chain⟩], none⟩) rfl (fun K hK => ?_) AllReadyH.nil
   go_simp
   (go_at_call 76; refine Calls.mono (cQ _) ?_; rintro e y2 ⟨rfl, E2⟩; have X2 : Ext W2 y2 := Ext.trans (by with_reducible repeat (first | assumption | exact Ext.refl _ | apply Ext.alloc | apply Ext.drew | apply Ext.drewN)) E2)
   try go_wp2_with fail
   refine hK.out _ _ ?_ (fun hHeld2 => ?_)
   · (try dsimp only); (refine mkS.out _ ?_; ((with_reducible (repeat (first | assumption | exact Ext.refl _ | apply Ext.alloc | apply Ext.drew | apply Ext.drewN))); done))
   clear hK K hHeld1
   try simp only [Act.put, List.setIfInBounds_toArray, List.set_cons_zero, List.set_cons_succ]
   refine wpAnyH_ready (rs := [4]) (by kernel_rfl) (by simp) ?_
   refine AllReadyH.cons (o := ⟨some 67, .call { callee := .value (.func 75), args := #[.tmp 64, .tmp 66, .func 45], argTypes := #[24, 24, 33] }, 4, "parse.go:93", #[⟨1, .data⟩, ⟨3, .data⟩, ⟨3, .chain⟩], none⟩) rfl (fun K hK => ?_) AllReadyH.nil
   go_simp
   (go_at_call 75; refine Calls.mono (HEQ.out _ (HF.out.2.2.trans (by with_reducible repeat (first | assumption | exact Ext.refl _ | apply Ext.alloc | apply Ext.drew | apply Ext.drewN)))) ?_; rintro e y3 ⟨rfl, E3⟩; have X3 : Ext W2 y3 := Ext.trans (by with_reducible repeat (first | assumption | exact Ext.refl _ | apply Ext.alloc | apply Ext.drew | apply Ext.drewN)) E3)
   try go_wp2_with fail
   refine hK.out _ _ ?_ (fun hHeld3 => ?_)
   · (try dsimp only); (refine mkS.out _ ?_; ((with_reducible (repeat (first | assumption | exact Ext.refl _ | apply Ext.alloc | apply Ext.drew | apply Ext.drewN))); done))
   clear hK K hHeld2
   try simp only [Act.put, List.setIfInBounds_toArray, List.set_cons_zero, List.set_cons_succ]
   refine wpAnyH_take (i := 5) (oi := ⟨some 4, .assign (.tmp 67), 4, "parse.go:93", #[⟨4, .data⟩, ⟨4, .chain⟩, ⟨0, .phase⟩, ⟨1, .phase⟩, ⟨2, .phase⟩, ⟨3, .phase⟩, ⟨4, .phase⟩], none⟩) (v := ?_) rfl (by kernel_rfl) (by kernel_rfl) (by kernel_rfl) (fun _ _ _ h => h) (Or.inl ⟨by rfl, ?_⟩) (by assumption) ?_
   rotate_left
   · intro w hSw; (try dsimp only at hSw); first | (go_simp; done) | (go_simp; with_reducible rfl)
   try simp only [Act.put, List.setIfInBounds_toArray, List.set_cons_zero, List.set_cons_succ]
   refine wpAnyH_done (by kernel_rfl) ?_ _
   go_wp2_with fail
   go_ret
   exact ⟨ret_bool (by rw [HX.out]), HF.out.2.2.trans (by assumption)⟩
 have n6 := hk
 clear hk
 by_cases hk : a.k = 7
 · have e0 : (a.k == 0) = false := by rw [hk]; rfl
   have e2 : (a.k == 2) = false := by rw [hk]; rfl
   have e1 : (a.k == 1) = false := by rw [hk]; rfl
   have e3 : (a.k == 3) = false := by rw [hk]; rfl
   have e4 : (a.k == 4) = false := by rw [hk]; rfl
   have e5 : (a.k == 5) = false := by rw [hk]; rfl
   have e7 : (a.k == 7) = true := by rw [hk]; rfl
   have e8 : (a.k == 8) = false := by rw [hk]; rfl
   have cP := fun W => xparts_any a pp ln cl W
   have cQ := fun W => xparts_any b qq lm cm W
   rw [ptV_yes (show a.k = 6 ∨ a.k = 7 ∨ a.k = 8 by omega)] at cP
   rw [ptV_yes (show b.k = 6 ∨ b.k = 7 ∨ b.k = 8 by omega)] at cQ
   have HEQ : Hid (∀ V, Ext W V → Calls Try.prog 75 #[.slice pp ln cl, .slice qq lm cm, .func (.func 45) #[] #[]] V fun e w' => e = .returned (.bool (allZ (sameT n) a.l b.l)) ∧ Ext V w') := fun V e => equal_any P n a.l b.l pp qq ln cl lm cm V hl hx (hI.ext e) (hJ.ext e)
   by_cases hns : ¬ a.s = b.s
   · have hs := hns
     clear hns
     have es : ((bs a.s).toList == (bs b.s).toList) = false := by rw [bs_tl9, bs_tl9]; simpa using hs
     have HX : Hid (sameT (n + 1) a b = false) := by show _ = _; unfold sameT; rw [if_neg (by rw [← hkb]; simp)]; simp [hk, hs]
     generalize bs a.s = qa at *
     generalize bs b.s = qb at *
     clear hk hkb hI hJ hl hx hs eR eQ cP cQ
     go_enter Try.func45, Try.ntmps45
     go_wp2_with fail
     go_ret
     exact ⟨ret_bool (by rw [HX.out]), ((Ext.refl _).alloc _).alloc _⟩
   have hs : a.s = b.s := Decidable.not_not.1 hns
   clear hns
   have es : ((bs a.s).toList == (bs b.s).toList) = true := by rw [bs_tl9, bs_tl9]; simpa using hs
   have HX : Hid (sameT (n + 1) a b = allZ (sameT n) a.l b.l) := by show _ = _; unfold sameT; rw [if_neg (by rw [← hkb]; simp)]; simp [hk, hs]
   clear hk hkb hI hJ hl hx hs eR eQ
   go_enter Try.func45, Try.ntmps45
   go_wp2_with fail
   have HF : Hid (BlkX ((W.alloc (.cells #[.int .i64 a.k, .int .i64 a.n, .string (bs a.s), .int .i64 a.e, .int .i64 a.r.1, .int .i64 a.r.2.1, .bool a.r.2.2.1, .bool a.r.2.2.2, .int .i64 a.q.1, .int .i64 a.q.2.1, .bool a.q.2.2.1, .bool a.q.2.2.2, .slice pp ln cl] 26)).alloc (.cells #[.int .i64 b.k, .int .i64 b.n, .string (bs b.s), .int .i64 b.e, .int .i64 b.r.1, .int .i64 b.r.2.1, .bool b.r.2.2.1, .bool b.r.2.2.2, .int .i64 b.q.1, .int .i64 b.q.2.1, .bool b.q.2.2.1, .bool b.q.2.2.2, .slice qq lm cm] 26)) W.heap.size a (.slice pp ln cl) ∧ BlkX ((W.alloc (.cells #[.int .i64 a.k, .int .i64 a.n, .string (bs a.s), .int .i64 a.e, .int .i64 a.r.1, .int .i64 a.r.2.1, .bool a.r.2.2.1, .bool a.r.2.2.2, .int .i64 a.q.1, .int .i64 a.q.2.1, .bool a.q.2.2.1, .bool a.q.2.2.2, .slice pp ln cl] 26)).alloc (.cells #[.int .i64 b.k, .int .i64 b.n, .string (bs b.s), .int .i64 b.e, .int .i64 b.r.1, .int .i64 b.r.2.1, .bool b.r.2.2.1, .bool b.r.2.2.2, .int .i64 b.q.1, .int .i64 b.q.2.1, .bool b.q.2.2.1, .bool b.q.2.2.2, .slice qq lm cm] 26)) (W.heap.size + 1) b (.slice qq lm cm) ∧ Ext W ((W.alloc (.cells #[.int .i64 a.k, .int .i64 a.n, .string (bs a.s), .int .i64 a.e, .int .i64 a.r.1, .int .i64 a.r.2.1, .bool a.r.2.2.1, .bool a.r.2.2.2, .int .i64 a.q.1, .int .i64 a.q.2.1, .bool a.q.2.2.1, .bool a.q.2.2.2, .slice pp ln cl] 26)).alloc (.cells #[.int .i64 b.k, .int .i64 b.n, .string (bs b.s), .int .i64 b.e, .int .i64 b.r.1, .int .i64 b.r.2.1, .bool b.r.2.2.1, .bool b.r.2.2.2, .int .i64 b.q.1, .int .i64 b.q.2.1, .bool b.q.2.2.1, .bool b.q.2.2.2, .slice qq lm cm] 26))) := ⟨blk13_top rfl ((Ext.refl _).alloc _), blk13_top (by simp) (Ext.refl _), ((Ext.refl _).alloc _).alloc _⟩
   generalize ((W.alloc (.cells #[.int .i64 a.k, .int .i64 a.n, .string (bs a.s), .int .i64 a.e, .int .i64 a.r.1, .int .i64 a.r.2.1, .bool a.r.2.2.1, .bool a.r.2.2.2, .int .i64 a.q.1, .int .i64 a.q.2.1, .bool a.q.2.2.1, .bool a.q.2.2.2, .slice pp ln cl] 26)).alloc (.cells #[.int .i64 b.k, .int .i64 b.n, .string (bs b.s), .int .i64 b.e, .int .i64 b.r.1, .int .i64 b.r.2.1, .bool b.r.2.2.1, .bool b.r.2.2.2, .int .i64 b.q.1, .int .i64 b.q.2.1, .bool b.q.2.2.1, .bool b.q.2.2.2, .slice qq lm cm] 26)) = W2 at *
   have mkS : Hid (∀ V, Ext W2 V → V.cell? ⟨W.heap.size, 0, none⟩ = some (.int .i64 a.k) ∧ V.cell? ⟨W.heap.size, 1, none⟩ = some (.int .i64 a.n) ∧ V.cell? ⟨W.heap.size, 2, none⟩ = some (.string (bs a.s)) ∧ V.cell? ⟨W.heap.size, 3, none⟩ = some (.int .i64 a.e) ∧ V.cell? ⟨W.heap.size, 4, none⟩ = some (.int .i64 a.r.1) ∧ V.cell? ⟨W.heap.size, 5, none⟩ = some (.int .i64 a.r.2.1) ∧ V.cell? ⟨W.heap.size, 6, none⟩ = some (.bool a.r.2.2.1) ∧ V.cell? ⟨W.heap.size, 7, none⟩ = some (.bool a.r.2.2.2) ∧ V.cell? ⟨W.heap.size, 8, none⟩ = some (.int .i64 a.q.1) ∧ V.cell? ⟨W.heap.size, 9, none⟩ = some (.int .i64 a.q.2.1) ∧ V.cell? ⟨W.heap.size, 10, none⟩ = some (.bool a.q.2.2.1) ∧ V.cell? ⟨W.heap.size, 11, none⟩ = some (.bool a.q.2.2.2) ∧ V.cell? ⟨W.heap.size, 12, none⟩ = some (.slice pp ln cl) ∧ V.cell? ⟨W.heap.size + 1, 0, none⟩ = some (.int .i64 b.k) ∧ V.cell? ⟨W.heap.size + 1, 1, none⟩ = some (.int .i64 b.n) ∧ V.cell? ⟨W.heap.size + 1, 2, none⟩ = some (.string (bs b.s)) ∧ V.cell? ⟨W.heap.size + 1, 3, none⟩ = some (.int .i64 b.e) ∧ V.cell? ⟨W.heap.size + 1, 4, none⟩ = some (.int .i64 b.r.1) ∧ V.cell? ⟨W.heap.size + 1, 5, none⟩ = some (.int .i64 b.r.2.1) ∧ V.cell? ⟨W.heap.size + 1, 6, none⟩ = some (.bool b.r.2.2.1) ∧ V.cell? ⟨W.heap.size + 1, 7, none⟩ = some (.bool b.r.2.2.2) ∧ V.cell? ⟨W.heap.size + 1, 8, none⟩ = some (.int .i64 b.q.1) ∧ V.cell? ⟨W.heap.size + 1, 9, none⟩ = some (.int .i64 b.q.2.1) ∧ V.cell? ⟨W.heap.size + 1, 10, none⟩ = some (.bool b.q.2.2.1) ∧ V.cell? ⟨W.heap.size + 1, 11, none⟩ = some (.bool b.q.2.2.2) ∧ V.cell? ⟨W.heap.size + 1, 12, none⟩ = some (.slice qq lm cm)) := fun V e => by
     obtain ⟨qz, ⟨k0, k1, k2, k3, k4, k5, k6, k7, k8, k9, k10, k11, k12⟩, gz⟩ := HF.out.1.ext e
     obtain ⟨qy, ⟨m0, m1, m2, m3, m4, m5, m6, m7, m8, m9, m10, m11, m12⟩, gy⟩ := HF.out.2.1.ext e
     exact ⟨k0, k1, k2, k3, k4, k5, k6, k7, k8, k9, k10, k11, k12, m0, m1, m2, m3, m4, m5, m6, m7, m8, m9, m10, m11, m12⟩
   refine wp_region_held_drew (S := (fun V => V.cell? ⟨W.heap.size, 0, none⟩ = some (.int .i64 a.k) ∧ V.cell? ⟨W.heap.size, 1, none⟩ = some (.int .i64 a.n) ∧ V.cell? ⟨W.heap.size, 2, none⟩ = some (.string (bs a.s)) ∧ V.cell? ⟨W.heap.size, 3, none⟩ = some (.int .i64 a.e) ∧ V.cell? ⟨W.heap.size, 4, none⟩ = some (.int .i64 a.r.1) ∧ V.cell? ⟨W.heap.size, 5, none⟩ = some (.int .i64 a.r.2.1) ∧ V.cell? ⟨W.heap.size, 6, none⟩ = some (.bool a.r.2.2.1) ∧ V.cell? ⟨W.heap.size, 7, none⟩ = some (.bool a.r.2.2.2) ∧ V.cell? ⟨W.heap.size, 8, none⟩ = some (.int .i64 a.q.1) ∧ V.cell? ⟨W.heap.size, 9, none⟩ = some (.int .i64 a.q.2.1) ∧ V.cell? ⟨W.heap.size, 10, none⟩ = some (.bool a.q.2.2.1) ∧ V.cell? ⟨W.heap.size, 11, none⟩ = some (.bool a.q.2.2.2) ∧ V.cell? ⟨W.heap.size, 12, none⟩ = some (.slice pp ln cl) ∧ V.cell? ⟨W.heap.size + 1, 0, none⟩ = some (.int .i64 b.k) ∧ V.cell? ⟨W.heap.size + 1, 1, none⟩ = some (.int .i64 b.n) ∧ V.cell? ⟨W.heap.size + 1, 2, none⟩ = some (.string (bs b.s)) ∧ V.cell? ⟨W.heap.size + 1, 3, none⟩ = some (.int .i64 b.e) ∧ V.cell? ⟨W.heap.size + 1, 4, none⟩ = some (.int .i64 b.r.1) ∧ V.cell? ⟨W.heap.size + 1, 5, none⟩ = some (.int .i64 b.r.2.1) ∧ V.cell? ⟨W.heap.size + 1, 6, none⟩ = some (.bool b.r.2.2.1) ∧ V.cell? ⟨W.heap.size + 1, 7, none⟩ = some (.bool b.r.2.2.2) ∧ V.cell? ⟨W.heap.size + 1, 8, none⟩ = some (.int .i64 b.q.1) ∧ V.cell? ⟨W.heap.size + 1, 9, none⟩ = some (.int .i64 b.q.2.1) ∧ V.cell? ⟨W.heap.size + 1, 10, none⟩ = some (.bool b.q.2.2.1) ∧ V.cell? ⟨W.heap.size + 1, 11, none⟩ = some (.bool b.q.2.2.2) ∧ V.cell? ⟨W.heap.size + 1, 12, none⟩ = some (.slice qq lm cm))) (by kernel_rfl) ?_ (fun hHeld0 => ?_)
   · (refine mkS.out _ ?_; ((with_reducible (repeat (first | assumption | exact Ext.refl _ | apply Ext.alloc | apply Ext.drew | apply Ext.drewN))); done))
   refine wpAnyH_take (i := 0) (oi := ⟨some 63, .load 26 (.tmp 2), 26, "parse.go:93", #[], none⟩) (v := ?_) rfl (by kernel_rfl) (by kernel_rfl) (by kernel_rfl) (fun _ _ _ h => h) (Or.inl ⟨by rfl, ?_⟩) (by assumption) ?_
   rotate_left
   · intro w hSw; (try dsimp only at hSw); first | (go_simp; done) | (go_simp; with_reducible rfl)
   try simp only [Act.put, List.setIfInBounds_toArray, List.set_cons_zero, List.set_cons_succ]
   refine wpAnyH_take (i := 2) (oi := ⟨some 65, .load 26 (.tmp 3), 26, "parse.go:93", #[], none⟩) (v := ?_) rfl (by kernel_rfl) (by kernel_rfl) (by kernel_rfl) (fun _ _ _ h => h) (Or.inl ⟨by rfl, ?_⟩) (by assumption) ?_
   rotate_left
   · intro w hSw; (try dsimp only at hSw); first | (go_simp; done) | (go_simp; with_reducible rfl)
   try simp only [Act.put, List.setIfInBounds_toArray, List.set_cons_zero, List.set_cons_succ]
   refine wpAnyH_ready (rs := [1]) (by kernel_rfl) (by simp) ?_
   refine AllReadyH.cons (o := ⟨some 64, .call { callee := .value (.func 76), args := #[.tmp 63], argTypes := #[26] }, 24, "parse.go:93", #[⟨0, .data⟩], none⟩) rfl (fun K hK => ?_) AllReadyH.nil
   go_simp
   (go_at_call 76; refine Calls.mono (cP _) ?_; rintro e y1 ⟨rfl, E1⟩; have X1 : Ext W2 y1 := Ext.trans (by with_reducible repeat (first | assumption | exact Ext.refl _ | apply Ext.alloc | apply Ext.drew | apply Ext.drewN)) E1)
   try go_wp2_with fail
   refine hK.out _ _ ?_ (fun hHeld1 => ?_)
   · (try dsimp only); (refine mkS.out _ ?_; ((with_reducible (repeat (first | assumption | exact Ext.refl _ | apply Ext.alloc | apply Ext.drew | apply Ext.drewN))); done))
   clear hK K hHeld0
   try simp only [Act.put, List.setIfInBounds_toArray, List.set_cons_zero, List.set_cons_succ]
   refine wpAnyH_ready (rs := [3]) (by kernel_rfl) (by simp) ?_
   refine AllReadyH.cons (o := ⟨some 66, .call { callee := .value (.func 76), args := #[.tmp 65], argTypes := #[26] }, 24, "parse.go:93", #[⟨2, .data⟩, ⟨1, .chain⟩], none⟩) rfl (fun K hK => ?_) AllReadyH.nil
   go_simp
   (go_at_call 76; refine Calls.mono (cQ _) ?_; rintro e y2 ⟨rfl, E2⟩; have X2 : Ext W2 y2 := Ext.trans (by with_reducible repeat (first | assumption | exact Ext.refl _ | apply Ext.alloc | apply Ext.drew | apply Ext.drewN)) E2)
   try go_wp2_with fail
   refine hK.out _ _ ?_ (fun hHeld2 => ?_)
   · (try dsimp only); (refine mkS.out _ ?_; ((with_reducible (repeat (first | assumption | exact Ext.refl _ | apply Ext.alloc | apply Ext.drew | apply Ext.drewN))); done))
   clear hK K hHeld1
   try simp only [Act.put, List.setIfInBounds_toArray, List.set_cons_zero, List.set_cons_succ]
   refine wpAnyH_ready (rs := [4]) (by kernel_rfl) (by simp) ?_
   refine AllReadyH.cons (o := ⟨some 67, .call { callee := .value (.func 75), args := #[.tmp 64, .tmp 66, .func 45], argTypes := #[24, 24, 33] }, 4, "parse.go:93", #[⟨1, .data⟩, ⟨3, .data⟩, ⟨3, .chain⟩], none⟩) rfl (fun K hK => ?_) AllReadyH.nil
   go_simp
   (go_at_call 75; refine Calls.mono (HEQ.out _ (HF.out.2.2.trans (by with_reducible repeat (first | assumption | exact Ext.refl _ | apply Ext.alloc | apply Ext.drew | apply Ext.drewN)))) ?_; rintro e y3 ⟨rfl, E3⟩; have X3 : Ext W2 y3 := Ext.trans (by with_reducible repeat (first | assumption | exact Ext.refl _ | apply Ext.alloc | apply Ext.drew | apply Ext.drewN)) E3)
   try go_wp2_with fail
   refine hK.out _ _ ?_ (fun hHeld3 => ?_)
   · (try dsimp only); (refine mkS.out _ ?_; ((with_reducible (repeat (first | assumption | exact Ext.refl _ | apply Ext.alloc | apply Ext.drew | apply Ext.drewN))); done))
   clear hK K hHeld2
   try simp only [Act.put, List.setIfInBounds_toArray, List.set_cons_zero, List.set_cons_succ]
   refine wpAnyH_take (i := 5) (oi := ⟨some 4, .assign (.tmp 67), 4, "parse.go:93", #[⟨4, .data⟩, ⟨4, .chain⟩, ⟨0, .phase⟩, ⟨1, .phase⟩, ⟨2, .phase⟩, ⟨3, .phase⟩, ⟨4, .phase⟩], none⟩) (v := ?_) rfl (by kernel_rfl) (by kernel_rfl) (by kernel_rfl) (fun _ _ _ h => h) (Or.inl ⟨by rfl, ?_⟩) (by assumption) ?_
   rotate_left
   · intro w hSw; (try dsimp only at hSw); first | (go_simp; done) | (go_simp; with_reducible rfl)
   try simp only [Act.put, List.setIfInBounds_toArray, List.set_cons_zero, List.set_cons_succ]
   refine wpAnyH_done (by kernel_rfl) ?_ _
   go_wp2_with fail
   go_ret
   exact ⟨ret_bool (by rw [HX.out]), HF.out.2.2.trans (by assumption)⟩
 have n7 := hk
 clear hk
 by_cases hk : a.k = 8
 · have e0 : (a.k == 0) = false := by rw [hk]; rfl
   have e2 : (a.k == 2) = false := by rw [hk]; rfl
   have e1 : (a.k == 1) = false := by rw [hk]; rfl
   have e3 : (a.k == 3) = false := by rw [hk]; rfl
   have e4 : (a.k == 4) = false := by rw [hk]; rfl
   have e5 : (a.k == 5) = false := by rw [hk]; rfl
   have e7 : (a.k == 7) = false := by rw [hk]; rfl
   have e8 : (a.k == 8) = true := by rw [hk]; rfl
   have cP := fun W => xparts_any a pp ln cl W
   have cQ := fun W => xparts_any b qq lm cm W
   rw [ptV_yes (show a.k = 6 ∨ a.k = 7 ∨ a.k = 8 by omega)] at cP
   rw [ptV_yes (show b.k = 6 ∨ b.k = 7 ∨ b.k = 8 by omega)] at cQ
   have HEQ : Hid (∀ V, Ext W V → Calls Try.prog 75 #[.slice pp ln cl, .slice qq lm cm, .func (.func 45) #[] #[]] V fun e w' => e = .returned (.bool (allZ (sameT n) a.l b.l)) ∧ Ext V w') := fun V e => equal_any P n a.l b.l pp qq ln cl lm cm V hl hx (hI.ext e) (hJ.ext e)
   by_cases hns : ¬ a.s = b.s
   · have hs := hns
     clear hns
     have es : ((bs a.s).toList == (bs b.s).toList) = false := by rw [bs_tl9, bs_tl9]; simpa using hs
     have HX : Hid (sameT (n + 1) a b = false) := by show _ = _; unfold sameT; rw [if_neg (by rw [← hkb]; simp)]; simp [hk, hs]
     generalize bs a.s = qa at *
     generalize bs b.s = qb at *
     clear hk hkb hI hJ hl hx hs eR eQ cP cQ
     go_enter Try.func45, Try.ntmps45
     go_wp2_with fail
     go_ret
     exact ⟨ret_bool (by rw [HX.out]), ((Ext.refl _).alloc _).alloc _⟩
   have hs : a.s = b.s := Decidable.not_not.1 hns
   clear hns
   have es : ((bs a.s).toList == (bs b.s).toList) = true := by rw [bs_tl9, bs_tl9]; simpa using hs
   have HX : Hid (sameT (n + 1) a b = allZ (sameT n) a.l b.l) := by show _ = _; unfold sameT; rw [if_neg (by rw [← hkb]; simp)]; simp [hk, hs]
   clear hk hkb hI hJ hl hx hs eR eQ
   go_enter Try.func45, Try.ntmps45
   go_wp2_with fail
   have HF : Hid (BlkX ((W.alloc (.cells #[.int .i64 a.k, .int .i64 a.n, .string (bs a.s), .int .i64 a.e, .int .i64 a.r.1, .int .i64 a.r.2.1, .bool a.r.2.2.1, .bool a.r.2.2.2, .int .i64 a.q.1, .int .i64 a.q.2.1, .bool a.q.2.2.1, .bool a.q.2.2.2, .slice pp ln cl] 26)).alloc (.cells #[.int .i64 b.k, .int .i64 b.n, .string (bs b.s), .int .i64 b.e, .int .i64 b.r.1, .int .i64 b.r.2.1, .bool b.r.2.2.1, .bool b.r.2.2.2, .int .i64 b.q.1, .int .i64 b.q.2.1, .bool b.q.2.2.1, .bool b.q.2.2.2, .slice qq lm cm] 26)) W.heap.size a (.slice pp ln cl) ∧ BlkX ((W.alloc (.cells #[.int .i64 a.k, .int .i64 a.n, .string (bs a.s), .int .i64 a.e, .int .i64 a.r.1, .int .i64 a.r.2.1, .bool a.r.2.2.1, .bool a.r.2.2.2, .int .i64 a.q.1, .int .i64 a.q.2.1, .bool a.q.2.2.1, .bool a.q.2.2.2, .slice pp ln cl] 26)).alloc (.cells #[.int .i64 b.k, .int .i64 b.n, .string (bs b.s), .int .i64 b.e, .int .i64 b.r.1, .int .i64 b.r.2.1, .bool b.r.2.2.1, .bool b.r.2.2.2, .int .i64 b.q.1, .int .i64 b.q.2.1, .bool b.q.2.2.1, .bool b.q.2.2.2, .slice qq lm cm] 26)) (W.heap.size + 1) b (.slice qq lm cm) ∧ Ext W ((W.alloc (.cells #[.int .i64 a.k, .int .i64 a.n, .string (bs a.s), .int .i64 a.e, .int .i64 a.r.1, .int .i64 a.r.2.1, .bool a.r.2.2.1, .bool a.r.2.2.2, .int .i64 a.q.1, .int .i64 a.q.2.1, .bool a.q.2.2.1, .bool a.q.2.2.2, .slice pp ln cl] 26)).alloc (.cells #[.int .i64 b.k, .int .i64 b.n, .string (bs b.s), .int .i64 b.e, .int .i64 b.r.1, .int .i64 b.r.2.1, .bool b.r.2.2.1, .bool b.r.2.2.2, .int .i64 b.q.1, .int .i64 b.q.2.1, .bool b.q.2.2.1, .bool b.q.2.2.2, .slice qq lm cm] 26))) := ⟨blk13_top rfl ((Ext.refl _).alloc _), blk13_top (by simp) (Ext.refl _), ((Ext.refl _).alloc _).alloc _⟩
   generalize ((W.alloc (.cells #[.int .i64 a.k, .int .i64 a.n, .string (bs a.s), .int .i64 a.e, .int .i64 a.r.1, .int .i64 a.r.2.1, .bool a.r.2.2.1, .bool a.r.2.2.2, .int .i64 a.q.1, .int .i64 a.q.2.1, .bool a.q.2.2.1, .bool a.q.2.2.2, .slice pp ln cl] 26)).alloc (.cells #[.int .i64 b.k, .int .i64 b.n, .string (bs b.s), .int .i64 b.e, .int .i64 b.r.1, .int .i64 b.r.2.1, .bool b.r.2.2.1, .bool b.r.2.2.2, .int .i64 b.q.1, .int .i64 b.q.2.1, .bool b.q.2.2.1, .bool b.q.2.2.2, .slice qq lm cm] 26)) = W2 at *
   have mkS : Hid (∀ V, Ext W2 V → V.cell? ⟨W.heap.size, 0, none⟩ = some (.int .i64 a.k) ∧ V.cell? ⟨W.heap.size, 1, none⟩ = some (.int .i64 a.n) ∧ V.cell? ⟨W.heap.size, 2, none⟩ = some (.string (bs a.s)) ∧ V.cell? ⟨W.heap.size, 3, none⟩ = some (.int .i64 a.e) ∧ V.cell? ⟨W.heap.size, 4, none⟩ = some (.int .i64 a.r.1) ∧ V.cell? ⟨W.heap.size, 5, none⟩ = some (.int .i64 a.r.2.1) ∧ V.cell? ⟨W.heap.size, 6, none⟩ = some (.bool a.r.2.2.1) ∧ V.cell? ⟨W.heap.size, 7, none⟩ = some (.bool a.r.2.2.2) ∧ V.cell? ⟨W.heap.size, 8, none⟩ = some (.int .i64 a.q.1) ∧ V.cell? ⟨W.heap.size, 9, none⟩ = some (.int .i64 a.q.2.1) ∧ V.cell? ⟨W.heap.size, 10, none⟩ = some (.bool a.q.2.2.1) ∧ V.cell? ⟨W.heap.size, 11, none⟩ = some (.bool a.q.2.2.2) ∧ V.cell? ⟨W.heap.size, 12, none⟩ = some (.slice pp ln cl) ∧ V.cell? ⟨W.heap.size + 1, 0, none⟩ = some (.int .i64 b.k) ∧ V.cell? ⟨W.heap.size + 1, 1, none⟩ = some (.int .i64 b.n) ∧ V.cell? ⟨W.heap.size + 1, 2, none⟩ = some (.string (bs b.s)) ∧ V.cell? ⟨W.heap.size + 1, 3, none⟩ = some (.int .i64 b.e) ∧ V.cell? ⟨W.heap.size + 1, 4, none⟩ = some (.int .i64 b.r.1) ∧ V.cell? ⟨W.heap.size + 1, 5, none⟩ = some (.int .i64 b.r.2.1) ∧ V.cell? ⟨W.heap.size + 1, 6, none⟩ = some (.bool b.r.2.2.1) ∧ V.cell? ⟨W.heap.size + 1, 7, none⟩ = some (.bool b.r.2.2.2) ∧ V.cell? ⟨W.heap.size + 1, 8, none⟩ = some (.int .i64 b.q.1) ∧ V.cell? ⟨W.heap.size + 1, 9, none⟩ = some (.int .i64 b.q.2.1) ∧ V.cell? ⟨W.heap.size + 1, 10, none⟩ = some (.bool b.q.2.2.1) ∧ V.cell? ⟨W.heap.size + 1, 11, none⟩ = some (.bool b.q.2.2.2) ∧ V.cell? ⟨W.heap.size + 1, 12, none⟩ = some (.slice qq lm cm)) := fun V e => by
     obtain ⟨qz, ⟨k0, k1, k2, k3, k4, k5, k6, k7, k8, k9, k10, k11, k12⟩, gz⟩ := HF.out.1.ext e
     obtain ⟨qy, ⟨m0, m1, m2, m3, m4, m5, m6, m7, m8, m9, m10, m11, m12⟩, gy⟩ := HF.out.2.1.ext e
     exact ⟨k0, k1, k2, k3, k4, k5, k6, k7, k8, k9, k10, k11, k12, m0, m1, m2, m3, m4, m5, m6, m7, m8, m9, m10, m11, m12⟩
   refine wp_region_held_drew (S := (fun V => V.cell? ⟨W.heap.size, 0, none⟩ = some (.int .i64 a.k) ∧ V.cell? ⟨W.heap.size, 1, none⟩ = some (.int .i64 a.n) ∧ V.cell? ⟨W.heap.size, 2, none⟩ = some (.string (bs a.s)) ∧ V.cell? ⟨W.heap.size, 3, none⟩ = some (.int .i64 a.e) ∧ V.cell? ⟨W.heap.size, 4, none⟩ = some (.int .i64 a.r.1) ∧ V.cell? ⟨W.heap.size, 5, none⟩ = some (.int .i64 a.r.2.1) ∧ V.cell? ⟨W.heap.size, 6, none⟩ = some (.bool a.r.2.2.1) ∧ V.cell? ⟨W.heap.size, 7, none⟩ = some (.bool a.r.2.2.2) ∧ V.cell? ⟨W.heap.size, 8, none⟩ = some (.int .i64 a.q.1) ∧ V.cell? ⟨W.heap.size, 9, none⟩ = some (.int .i64 a.q.2.1) ∧ V.cell? ⟨W.heap.size, 10, none⟩ = some (.bool a.q.2.2.1) ∧ V.cell? ⟨W.heap.size, 11, none⟩ = some (.bool a.q.2.2.2) ∧ V.cell? ⟨W.heap.size, 12, none⟩ = some (.slice pp ln cl) ∧ V.cell? ⟨W.heap.size + 1, 0, none⟩ = some (.int .i64 b.k) ∧ V.cell? ⟨W.heap.size + 1, 1, none⟩ = some (.int .i64 b.n) ∧ V.cell? ⟨W.heap.size + 1, 2, none⟩ = some (.string (bs b.s)) ∧ V.cell? ⟨W.heap.size + 1, 3, none⟩ = some (.int .i64 b.e) ∧ V.cell? ⟨W.heap.size + 1, 4, none⟩ = some (.int .i64 b.r.1) ∧ V.cell? ⟨W.heap.size + 1, 5, none⟩ = some (.int .i64 b.r.2.1) ∧ V.cell? ⟨W.heap.size + 1, 6, none⟩ = some (.bool b.r.2.2.1) ∧ V.cell? ⟨W.heap.size + 1, 7, none⟩ = some (.bool b.r.2.2.2) ∧ V.cell? ⟨W.heap.size + 1, 8, none⟩ = some (.int .i64 b.q.1) ∧ V.cell? ⟨W.heap.size + 1, 9, none⟩ = some (.int .i64 b.q.2.1) ∧ V.cell? ⟨W.heap.size + 1, 10, none⟩ = some (.bool b.q.2.2.1) ∧ V.cell? ⟨W.heap.size + 1, 11, none⟩ = some (.bool b.q.2.2.2) ∧ V.cell? ⟨W.heap.size + 1, 12, none⟩ = some (.slice qq lm cm))) (by kernel_rfl) ?_ (fun hHeld0 => ?_)
   · (refine mkS.out _ ?_; ((with_reducible (repeat (first | assumption | exact Ext.refl _ | apply Ext.alloc | apply Ext.drew | apply Ext.drewN))); done))
   refine wpAnyH_take (i := 0) (oi := ⟨some 63, .load 26 (.tmp 2), 26, "parse.go:93", #[], none⟩) (v := ?_) rfl (by kernel_rfl) (by kernel_rfl) (by kernel_rfl) (fun _ _ _ h => h) (Or.inl ⟨by rfl, ?_⟩) (by assumption) ?_
   rotate_left
   · intro w hSw; (try dsimp only at hSw); first | (go_simp; done) | (go_simp; with_reducible rfl)
   try simp only [Act.put, List.setIfInBounds_toArray, List.set_cons_zero, List.set_cons_succ]
   refine wpAnyH_take (i := 2) (oi := ⟨some 65, .load 26 (.tmp 3), 26, "parse.go:93", #[], none⟩) (v := ?_) rfl (by kernel_rfl) (by kernel_rfl) (by kernel_rfl) (fun _ _ _ h => h) (Or.inl ⟨by rfl, ?_⟩) (by assumption) ?_
   rotate_left
   · intro w hSw; (try dsimp only at hSw); first | (go_simp; done) | (go_simp; with_reducible rfl)
   try simp only [Act.put, List.setIfInBounds_toArray, List.set_cons_zero, List.set_cons_succ]
   refine wpAnyH_ready (rs := [1]) (by kernel_rfl) (by simp) ?_
   refine AllReadyH.cons (o := ⟨some 64, .call { callee := .value (.func 76), args := #[.tmp 63], argTypes := #[26] }, 24, "parse.go:93", #[⟨0, .data⟩], none⟩) rfl (fun K hK => ?_) AllReadyH.nil
   go_simp
   (go_at_call 76; refine Calls.mono (cP _) ?_; rintro e y1 ⟨rfl, E1⟩; have X1 : Ext W2 y1 := Ext.trans (by with_reducible repeat (first | assumption | exact Ext.refl _ | apply Ext.alloc | apply Ext.drew | apply Ext.drewN)) E1)
   try go_wp2_with fail
   refine hK.out _ _ ?_ (fun hHeld1 => ?_)
   · (try dsimp only); (refine mkS.out _ ?_; ((with_reducible (repeat (first | assumption | exact Ext.refl _ | apply Ext.alloc | apply Ext.drew | apply Ext.drewN))); done))
   clear hK K hHeld0
   try simp only [Act.put, List.setIfInBounds_toArray, List.set_cons_zero, List.set_cons_succ]
   refine wpAnyH_ready (rs := [3]) (by kernel_rfl) (by simp) ?_
   refine AllReadyH.cons (o := ⟨some 66, .call { callee := .value (.func 76), args := #[.tmp 65], argTypes := #[26] }, 24, "parse.go:93", #[⟨2, .data⟩, ⟨1, .chain⟩], none⟩) rfl (fun K hK => ?_) AllReadyH.nil
   go_simp
   (go_at_call 76; refine Calls.mono (cQ _) ?_; rintro e y2 ⟨rfl, E2⟩; have X2 : Ext W2 y2 := Ext.trans (by with_reducible repeat (first | assumption | exact Ext.refl _ | apply Ext.alloc | apply Ext.drew | apply Ext.drewN)) E2)
   try go_wp2_with fail
   refine hK.out _ _ ?_ (fun hHeld2 => ?_)
   · (try dsimp only); (refine mkS.out _ ?_; ((with_reducible (repeat (first | assumption | exact Ext.refl _ | apply Ext.alloc | apply Ext.drew | apply Ext.drewN))); done))
   clear hK K hHeld1
   try simp only [Act.put, List.setIfInBounds_toArray, List.set_cons_zero, List.set_cons_succ]
   refine wpAnyH_ready (rs := [4]) (by kernel_rfl) (by simp) ?_
   refine AllReadyH.cons (o := ⟨some 67, .call { callee := .value (.func 75), args := #[.tmp 64, .tmp 66, .func 45], argTypes := #[24, 24, 33] }, 4, "parse.go:93", #[⟨1, .data⟩, ⟨3, .data⟩, ⟨3, .chain⟩], none⟩) rfl (fun K hK => ?_) AllReadyH.nil
   go_simp
   (go_at_call 75; refine Calls.mono (HEQ.out _ (HF.out.2.2.trans (by with_reducible repeat (first | assumption | exact Ext.refl _ | apply Ext.alloc | apply Ext.drew | apply Ext.drewN)))) ?_; rintro e y3 ⟨rfl, E3⟩; have X3 : Ext W2 y3 := Ext.trans (by with_reducible repeat (first | assumption | exact Ext.refl _ | apply Ext.alloc | apply Ext.drew | apply Ext.drewN)) E3)
   try go_wp2_with fail
   refine hK.out _ _ ?_ (fun hHeld3 => ?_)
   · (try dsimp only); (refine mkS.out _ ?_; ((with_reducible (repeat (first | assumption | exact Ext.refl _ | apply Ext.alloc | apply Ext.drew | apply Ext.drewN))); done))
   clear hK K hHeld2
   try simp only [Act.put, List.setIfInBounds_toArray, List.set_cons_zero, List.set_cons_succ]
   refine wpAnyH_take (i := 5) (oi := ⟨some 4, .assign (.tmp 67), 4, "parse.go:93", #[⟨4, .data⟩, ⟨4, .chain⟩, ⟨0, .phase⟩, ⟨1, .phase⟩, ⟨2, .phase⟩, ⟨3, .phase⟩, ⟨4, .phase⟩], none⟩) (v := ?_) rfl (by kernel_rfl) (by kernel_rfl) (by kernel_rfl) (fun _ _ _ h => h) (Or.inl ⟨by rfl, ?_⟩) (by assumption) ?_
   rotate_left
   · intro w hSw; (try dsimp only at hSw); first | (go_simp; done) | (go_simp; with_reducible rfl)
   try simp only [Act.put, List.setIfInBounds_toArray, List.set_cons_zero, List.set_cons_succ]
   refine wpAnyH_done (by kernel_rfl) ?_ _
   go_wp2_with fail
   go_ret
   exact ⟨ret_bool (by rw [HX.out]), HF.out.2.2.trans (by assumption)⟩
 have n8 := hk
 clear hk
 have h678 : ¬ (a.k = 6 ∨ a.k = 7 ∨ a.k = 8) := by omega
 have HX : Hid (sameT (n + 1) a b = true) := by show _ = _; unfold sameT; rw [if_neg (by rw [← hkb]; simp)]; simp [n0, n1, n2, n3, n4, n5, h678]
 have e0 : (a.k == 0) = false := by simpa using n0
 have e2 : (a.k == 2) = false := by simpa using n2
 have e1 : (a.k == 1) = false := by simpa using n1
 have e3 : (a.k == 3) = false := by simpa using n3
 have e4 : (a.k == 4) = false := by simpa using n4
 have e5 : (a.k == 5) = false := by simpa using n5
 have e7 : (a.k == 7) = false := by simpa using n7
 have e8 : (a.k == 8) = false := by simpa using n8
 have cP := fun W => xparts_any a pp ln cl W
 have cQ := fun W => xparts_any b qq lm cm W
 rw [ptV_no h678] at cP
 rw [ptV_no (by rw [← hkb]; exact h678)] at cQ
 have HEQ : Hid (∀ V, Ext W V → Calls Try.prog 75 #[.slice none 0 0, .slice none 0 0, .func (.func 45) #[] #[]] V fun e w' => e = .returned (.bool true) ∧ Ext V w') := fun V e => equal_any P n [] [] none none 0 0 0 0 V (by decide) (fun x hx => by cases hx) .nil .nil
 clear h678 hkb n0 n1 n2 n3 n4 n5 n6 n7 n8 eR eQ hI hJ hl hx
 go_enter Try.func45, Try.ntmps45
 go_wp2_with fail
 have HF : Hid (BlkX ((W.alloc (.cells #[.int .i64 a.k, .int .i64 a.n, .string (bs a.s), .int .i64 a.e, .int .i64 a.r.1, .int .i64 a.r.2.1, .bool a.r.2.2.1, .bool a.r.2.2.2, .int .i64 a.q.1, .int .i64 a.q.2.1, .bool a.q.2.2.1, .bool a.q.2.2.2, .slice pp ln cl] 26)).alloc (.cells #[.int .i64 b.k, .int .i64 b.n, .string (bs b.s), .int .i64 b.e, .int .i64 b.r.1, .int .i64 b.r.2.1, .bool b.r.2.2.1, .bool b.r.2.2.2, .int .i64 b.q.1, .int .i64 b.q.2.1, .bool b.q.2.2.1, .bool b.q.2.2.2, .slice qq lm cm] 26)) W.heap.size a (.slice pp ln cl) ∧ BlkX ((W.alloc (.cells #[.int .i64 a.k, .int .i64 a.n, .string (bs a.s), .int .i64 a.e, .int .i64 a.r.1, .int .i64 a.r.2.1, .bool a.r.2.2.1, .bool a.r.2.2.2, .int .i64 a.q.1, .int .i64 a.q.2.1, .bool a.q.2.2.1, .bool a.q.2.2.2, .slice pp ln cl] 26)).alloc (.cells #[.int .i64 b.k, .int .i64 b.n, .string (bs b.s), .int .i64 b.e, .int .i64 b.r.1, .int .i64 b.r.2.1, .bool b.r.2.2.1, .bool b.r.2.2.2, .int .i64 b.q.1, .int .i64 b.q.2.1, .bool b.q.2.2.1, .bool b.q.2.2.2, .slice qq lm cm] 26)) (W.heap.size + 1) b (.slice qq lm cm) ∧ Ext W ((W.alloc (.cells #[.int .i64 a.k, .int .i64 a.n, .string (bs a.s), .int .i64 a.e, .int .i64 a.r.1, .int .i64 a.r.2.1, .bool a.r.2.2.1, .bool a.r.2.2.2, .int .i64 a.q.1, .int .i64 a.q.2.1, .bool a.q.2.2.1, .bool a.q.2.2.2, .slice pp ln cl] 26)).alloc (.cells #[.int .i64 b.k, .int .i64 b.n, .string (bs b.s), .int .i64 b.e, .int .i64 b.r.1, .int .i64 b.r.2.1, .bool b.r.2.2.1, .bool b.r.2.2.2, .int .i64 b.q.1, .int .i64 b.q.2.1, .bool b.q.2.2.1, .bool b.q.2.2.2, .slice qq lm cm] 26))) := ⟨blk13_top rfl ((Ext.refl _).alloc _), blk13_top (by simp) (Ext.refl _), ((Ext.refl _).alloc _).alloc _⟩
 generalize ((W.alloc (.cells #[.int .i64 a.k, .int .i64 a.n, .string (bs a.s), .int .i64 a.e, .int .i64 a.r.1, .int .i64 a.r.2.1, .bool a.r.2.2.1, .bool a.r.2.2.2, .int .i64 a.q.1, .int .i64 a.q.2.1, .bool a.q.2.2.1, .bool a.q.2.2.2, .slice pp ln cl] 26)).alloc (.cells #[.int .i64 b.k, .int .i64 b.n, .string (bs b.s), .int .i64 b.e, .int .i64 b.r.1, .int .i64 b.r.2.1, .bool b.r.2.2.1, .bool b.r.2.2.2, .int .i64 b.q.1, .int .i64 b.q.2.1, .bool b.q.2.2.1, .bool b.q.2.2.2, .slice qq lm cm] 26)) = W2 at *
 have mkS : Hid (∀ V, Ext W2 V → V.cell? ⟨W.heap.size, 0, none⟩ = some (.int .i64 a.k) ∧ V.cell? ⟨W.heap.size, 1, none⟩ = some (.int .i64 a.n) ∧ V.cell? ⟨W.heap.size, 2, none⟩ = some (.string (bs a.s)) ∧ V.cell? ⟨W.heap.size, 3, none⟩ = some (.int .i64 a.e) ∧ V.cell? ⟨W.heap.size, 4, none⟩ = some (.int .i64 a.r.1) ∧ V.cell? ⟨W.heap.size, 5, none⟩ = some (.int .i64 a.r.2.1) ∧ V.cell? ⟨W.heap.size, 6, none⟩ = some (.bool a.r.2.2.1) ∧ V.cell? ⟨W.heap.size, 7, none⟩ = some (.bool a.r.2.2.2) ∧ V.cell? ⟨W.heap.size, 8, none⟩ = some (.int .i64 a.q.1) ∧ V.cell? ⟨W.heap.size, 9, none⟩ = some (.int .i64 a.q.2.1) ∧ V.cell? ⟨W.heap.size, 10, none⟩ = some (.bool a.q.2.2.1) ∧ V.cell? ⟨W.heap.size, 11, none⟩ = some (.bool a.q.2.2.2) ∧ V.cell? ⟨W.heap.size, 12, none⟩ = some (.slice pp ln cl) ∧ V.cell? ⟨W.heap.size + 1, 0, none⟩ = some (.int .i64 b.k) ∧ V.cell? ⟨W.heap.size + 1, 1, none⟩ = some (.int .i64 b.n) ∧ V.cell? ⟨W.heap.size + 1, 2, none⟩ = some (.string (bs b.s)) ∧ V.cell? ⟨W.heap.size + 1, 3, none⟩ = some (.int .i64 b.e) ∧ V.cell? ⟨W.heap.size + 1, 4, none⟩ = some (.int .i64 b.r.1) ∧ V.cell? ⟨W.heap.size + 1, 5, none⟩ = some (.int .i64 b.r.2.1) ∧ V.cell? ⟨W.heap.size + 1, 6, none⟩ = some (.bool b.r.2.2.1) ∧ V.cell? ⟨W.heap.size + 1, 7, none⟩ = some (.bool b.r.2.2.2) ∧ V.cell? ⟨W.heap.size + 1, 8, none⟩ = some (.int .i64 b.q.1) ∧ V.cell? ⟨W.heap.size + 1, 9, none⟩ = some (.int .i64 b.q.2.1) ∧ V.cell? ⟨W.heap.size + 1, 10, none⟩ = some (.bool b.q.2.2.1) ∧ V.cell? ⟨W.heap.size + 1, 11, none⟩ = some (.bool b.q.2.2.2) ∧ V.cell? ⟨W.heap.size + 1, 12, none⟩ = some (.slice qq lm cm)) := fun V e => by
   obtain ⟨qz, ⟨k0, k1, k2, k3, k4, k5, k6, k7, k8, k9, k10, k11, k12⟩, gz⟩ := HF.out.1.ext e
   obtain ⟨qy, ⟨m0, m1, m2, m3, m4, m5, m6, m7, m8, m9, m10, m11, m12⟩, gy⟩ := HF.out.2.1.ext e
   exact ⟨k0, k1, k2, k3, k4, k5, k6, k7, k8, k9, k10, k11, k12, m0, m1, m2, m3, m4, m5, m6, m7, m8, m9, m10, m11, m12⟩
 refine wp_region_held_drew (S := (fun V => V.cell? ⟨W.heap.size, 0, none⟩ = some (.int .i64 a.k) ∧ V.cell? ⟨W.heap.size, 1, none⟩ = some (.int .i64 a.n) ∧ V.cell? ⟨W.heap.size, 2, none⟩ = some (.string (bs a.s)) ∧ V.cell? ⟨W.heap.size, 3, none⟩ = some (.int .i64 a.e) ∧ V.cell? ⟨W.heap.size, 4, none⟩ = some (.int .i64 a.r.1) ∧ V.cell? ⟨W.heap.size, 5, none⟩ = some (.int .i64 a.r.2.1) ∧ V.cell? ⟨W.heap.size, 6, none⟩ = some (.bool a.r.2.2.1) ∧ V.cell? ⟨W.heap.size, 7, none⟩ = some (.bool a.r.2.2.2) ∧ V.cell? ⟨W.heap.size, 8, none⟩ = some (.int .i64 a.q.1) ∧ V.cell? ⟨W.heap.size, 9, none⟩ = some (.int .i64 a.q.2.1) ∧ V.cell? ⟨W.heap.size, 10, none⟩ = some (.bool a.q.2.2.1) ∧ V.cell? ⟨W.heap.size, 11, none⟩ = some (.bool a.q.2.2.2) ∧ V.cell? ⟨W.heap.size, 12, none⟩ = some (.slice pp ln cl) ∧ V.cell? ⟨W.heap.size + 1, 0, none⟩ = some (.int .i64 b.k) ∧ V.cell? ⟨W.heap.size + 1, 1, none⟩ = some (.int .i64 b.n) ∧ V.cell? ⟨W.heap.size + 1, 2, none⟩ = some (.string (bs b.s)) ∧ V.cell? ⟨W.heap.size + 1, 3, none⟩ = some (.int .i64 b.e) ∧ V.cell? ⟨W.heap.size + 1, 4, none⟩ = some (.int .i64 b.r.1) ∧ V.cell? ⟨W.heap.size + 1, 5, none⟩ = some (.int .i64 b.r.2.1) ∧ V.cell? ⟨W.heap.size + 1, 6, none⟩ = some (.bool b.r.2.2.1) ∧ V.cell? ⟨W.heap.size + 1, 7, none⟩ = some (.bool b.r.2.2.2) ∧ V.cell? ⟨W.heap.size + 1, 8, none⟩ = some (.int .i64 b.q.1) ∧ V.cell? ⟨W.heap.size + 1, 9, none⟩ = some (.int .i64 b.q.2.1) ∧ V.cell? ⟨W.heap.size + 1, 10, none⟩ = some (.bool b.q.2.2.1) ∧ V.cell? ⟨W.heap.size + 1, 11, none⟩ = some (.bool b.q.2.2.2) ∧ V.cell? ⟨W.heap.size + 1, 12, none⟩ = some (.slice qq lm cm))) (by kernel_rfl) ?_ (fun hHeld0 => ?_)
 · (refine mkS.out _ ?_; ((with_reducible (repeat (first | assumption | exact Ext.refl _ | apply Ext.alloc | apply Ext.drew | apply Ext.drewN))); done))
 refine wpAnyH_take (i := 0) (oi := ⟨some 63, .load 26 (.tmp 2), 26, "parse.go:93", #[], none⟩) (v := ?_) rfl (by kernel_rfl) (by kernel_rfl) (by kernel_rfl) (fun _ _ _ h => h) (Or.inl ⟨by rfl, ?_⟩) (by assumption) ?_
 rotate_left
 · intro w hSw; (try dsimp only at hSw); first | (go_simp; done) | (go_simp; with_reducible rfl)
 try simp only [Act.put, List.setIfInBounds_toArray, List.set_cons_zero, List.set_cons_succ]
 refine wpAnyH_take (i := 2) (oi := ⟨some 65, .load 26 (.tmp 3), 26, "parse.go:93", #[], none⟩) (v := ?_) rfl (by kernel_rfl) (by kernel_rfl) (by kernel_rfl) (fun _ _ _ h => h) (Or.inl ⟨by rfl, ?_⟩) (by assumption) ?_
 rotate_left
 · intro w hSw; (try dsimp only at hSw); first | (go_simp; done) | (go_simp; with_reducible rfl)
 try simp only [Act.put, List.setIfInBounds_toArray, List.set_cons_zero, List.set_cons_succ]
 refine wpAnyH_ready (rs := [1]) (by kernel_rfl) (by simp) ?_
 refine AllReadyH.cons (o := ⟨some 64, .call { callee := .value (.func 76), args := #[.tmp 63], argTypes := #[26] }, 24, "parse.go:93", #[⟨0, .data⟩], none⟩) rfl (fun K hK => ?_) AllReadyH.nil
 go_simp
 (go_at_call 76; refine Calls.mono (cP _) ?_; rintro e y1 ⟨rfl, E1⟩; have X1 : Ext W2 y1 := Ext.trans (by with_reducible repeat (first | assumption | exact Ext.refl _ | apply Ext.alloc | apply Ext.drew | apply Ext.drewN)) E1)
 try go_wp2_with fail
 refine hK.out _ _ ?_ (fun hHeld1 => ?_)
 · (try dsimp only); (refine mkS.out _ ?_; ((with_reducible (repeat (first | assumption | exact Ext.refl _ | apply Ext.alloc | apply Ext.drew | apply Ext.drewN))); done))
 clear hK K hHeld0
 try simp only [Act.put, List.setIfInBounds_toArray, List.set_cons_zero, List.set_cons_succ]
 refine wpAnyH_ready (rs := [3]) (by kernel_rfl) (by simp) ?_
 refine AllReadyH.cons (o := ⟨some 66, .call { callee := .value (.func 76), args := #[.tmp 65], argTypes := #[26] }, 24, "parse.go:93", #[⟨2, .data⟩, ⟨1, .chain⟩], none⟩) rfl (fun K hK => ?_) AllReadyH.nil
 go_simp
 (go_at_call 76; refine Calls.mono (cQ _) ?_; rintro e y2 ⟨rfl, E2⟩; have X2 : Ext W2 y2 := Ext.trans (by with_reducible repeat (first | assumption | exact Ext.refl _ | apply Ext.alloc | apply Ext.drew | apply Ext.drewN)) E2)
 try go_wp2_with fail
 refine hK.out _ _ ?_ (fun hHeld2 => ?_)
 · (try dsimp only); (refine mkS.out _ ?_; ((with_reducible (repeat (first | assumption | exact Ext.refl _ | apply Ext.alloc | apply Ext.drew | apply Ext.drewN))); done))
 clear hK K hHeld1
 try simp only [Act.put, List.setIfInBounds_toArray, List.set_cons_zero, List.set_cons_succ]
 refine wpAnyH_ready (rs := [4]) (by kernel_rfl) (by simp) ?_
 refine AllReadyH.cons (o := ⟨some 67, .call { callee := .value (.func 75), args := #[.tmp 64, .tmp 66, .func 45], argTypes := #[24, 24, 33] }, 4, "parse.go:93", #[⟨1, .data⟩, ⟨3, .data⟩, ⟨3, .chain⟩], none⟩) rfl (fun K hK => ?_) AllReadyH.nil
 go_simp
 (go_at_call 75; refine Calls.mono (HEQ.out _ (HF.out.2.2.trans (by with_reducible repeat (first | assumption | exact Ext.refl _ | apply Ext.alloc | apply Ext.drew | apply Ext.drewN)))) ?_; rintro e y3 ⟨rfl, E3⟩; have X3 : Ext W2 y3 := Ext.trans (by with_reducible repeat (first | assumption | exact Ext.refl _ | apply Ext.alloc | apply Ext.drew | apply Ext.drewN)) E3)
 try go_wp2_with fail
 refine hK.out _ _ ?_ (fun hHeld3 => ?_)
 · (try dsimp only); (refine mkS.out _ ?_; ((with_reducible (repeat (first | assumption | exact Ext.refl _ | apply Ext.alloc | apply Ext.drew | apply Ext.drewN))); done))
 clear hK K hHeld2
 try simp only [Act.put, List.setIfInBounds_toArray, List.set_cons_zero, List.set_cons_succ]
 refine wpAnyH_take (i := 5) (oi := ⟨some 4, .assign (.tmp 67), 4, "parse.go:93", #[⟨4, .data⟩, ⟨4, .chain⟩, ⟨0, .phase⟩, ⟨1, .phase⟩, ⟨2, .phase⟩, ⟨3, .phase⟩, ⟨4, .phase⟩], none⟩) (v := ?_) rfl (by kernel_rfl) (by kernel_rfl) (by kernel_rfl) (fun _ _ _ h => h) (Or.inl ⟨by rfl, ?_⟩) (by assumption) ?_
 rotate_left
 · intro w hSw; (try dsimp only at hSw); first | (go_simp; done) | (go_simp; with_reducible rfl)
 try simp only [Act.put, List.setIfInBounds_toArray, List.set_cons_zero, List.set_cons_succ]
 refine wpAnyH_done (by kernel_rfl) ?_ _
 go_wp2_with fail
 go_ret
 exact ⟨ret_bool (by rw [HX.out]), HF.out.2.2.trans (by assumption)⟩
theorem psame_any (P : Nat → Prop) (n : Nat) (a : T) (h : Hr n a) : SmC 45 P n a := by
 induction n generalizing a with
 | zero => cases h
 | succ n ih => exact psame_step P n a h.1 (fun x hx => ih x (h.2 x hx))
theorem allZ_refl (g : T → T → Bool) (l : List T) (h : ∀ x ∈ l, g x x = true) : allZ g l l = true := by
 induction l with
 | nil => rfl
 | cons a r ih => simp [allZ, h a (List.mem_cons_self ..), ih (fun x hx => h x (List.mem_cons_of_mem _ hx))]
theorem same_refl (n : Nat) (a : T) (h : Hr n a) : sameT n a a = true := by
 induction n generalizing a with
 | zero => cases h
 | succ n ih =>
   have := allZ_refl (sameT n) a.l (fun x hx => ih x (h.2 x hx))
   unfold sameT
   simp [this]

open Go.RowKit
set_option maxHeartbeats 6000000

theorem isIn_any (r0 r1 : Int) (r2 r3 : Bool) (w : World) : Calls Try.prog 77 #[.agg #[.int .i64 r0, .int .i64 r1, .bool r2, .bool r3]] w fun e w' => e = .returned (.bool (inB r0 r1)) ∧ Ext w w' := by
 have c1 := fun W => in_any r0 r1 W
 go_enter Try.func77, Try.ntmps77
 go_wp2_with fail
 refine (c1 _).mono ?_
 rintro e w1 ⟨rfl, rfl⟩
 go_wp2_with fail
 go_ret
 exact ⟨rfl, (Ext.refl _).alloc _⟩
end Go.Proofs.Ytcggiljlilbdfaa
