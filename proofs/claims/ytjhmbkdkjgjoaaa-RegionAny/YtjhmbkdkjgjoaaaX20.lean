import Derived.Test.YtjhmbkdkjgjoaaaX19
import Derived.Test.YtjhmbkdkjgjoaaaX15
import Derived.Test.YtjhmbkdkjgjoaaaX8
import Derived.Test.YtjhmbkdkjgjoaaaX12
import Derived.Test.YtjhmbkdkjgjoaaaX6
import Derived.Lib.SliceRun
import Derived.Lib.BufferMore
namespace Go.Proofs.Ytjhmbkdkjgjoaaa
open Go.RowKit
set_option maxHeartbeats 6000000
def ptV (t : T) (v : Value) : Value := if t.k = 6 ∨ t.k = 7 ∨ t.k = 8 then v else .slice none 0 0
theorem ptV_yes {t : T} (h : t.k = 6 ∨ t.k = 7 ∨ t.k = 8) (v : Value) : ptV t v = v := if_pos h
theorem ptV_no {t : T} (h : ¬ (t.k = 6 ∨ t.k = 7 ∨ t.k = 8)) (v : Value) : ptV t v = .slice none 0 0 := if_neg h
theorem xparts_any (t : T) (pp : Option Addr) (ln cl : Nat) (W : World) : Calls Try.prog 65 #[.agg #[.int .i64 t.k, .int .i64 t.n, .string (bs t.s), .int .i64 t.e, .int .i64 t.r.1, .int .i64 t.r.2.1, .bool t.r.2.2.1, .bool t.r.2.2.2, .int .i64 t.q.1, .int .i64 t.q.2.1, .bool t.q.2.2.1, .bool t.q.2.2.2, .slice pp ln cl]] W fun e w' => e = .returned (ptV t (.slice pp ln cl)) ∧ Ext W w' := by
 by_cases h6 : t.k = 6
 · have e6 : (t.k == 6) = true := by rw [h6]; rfl
   rw [ptV_yes (.inl h6)]
   clear h6
   go_enter Try.func65, Try.ntmps65
   go_wp2_with fail
   go_ret
   exact ⟨rfl, (Ext.refl _).alloc _⟩
 by_cases h7 : t.k = 7
 · have e6 : (t.k == 6) = false := by rw [h7]; rfl
   have e7 : (t.k == 7) = true := by rw [h7]; rfl
   rw [ptV_yes (.inr (.inl h7))]
   clear h6 h7
   go_enter Try.func65, Try.ntmps65
   go_wp2_with fail
   go_ret
   exact ⟨rfl, (Ext.refl _).alloc _⟩
 by_cases h8 : t.k = 8
 · have e6 : (t.k == 6) = false := by rw [h8]; rfl
   have e7 : (t.k == 7) = false := by rw [h8]; rfl
   have e8 : (t.k == 8) = true := by rw [h8]; rfl
   rw [ptV_yes (.inr (.inr h8))]
   clear h6 h7 h8
   go_enter Try.func65, Try.ntmps65
   go_wp2_with fail
   go_ret
   exact ⟨rfl, (Ext.refl _).alloc _⟩
 have e6 : (t.k == 6) = false := by simpa using h6
 have e7 : (t.k == 7) = false := by simpa using h7
 have e8 : (t.k == 8) = false := by simpa using h8
 rw [ptV_no (by omega)]
 clear h6 h7 h8
 go_enter Try.func65, Try.ntmps65
 go_wp2_with fail
 go_ret
 exact ⟨rfl, (Ext.refl _).alloc _⟩
open Go.RowKit
set_option maxHeartbeats 6000000
set_option maxRecDepth 100000 in
theorem equal_any (P : Nat → Prop) (n : Nat) (l m : List T) (pp qq : Option Addr) (ln cl lm cm : Nat) (w : World) (hl : l.length ≤ 100000) (hx : ∀ x ∈ l, SmC 46 P n x) (h : IsL w P (.slice pp ln cl) l) (h' : IsL w P (.slice qq lm cm) m) :
   Calls Try.prog 64 #[.slice pp ln cl, .slice qq lm cm, .func (.func 46) #[] #[]] w fun e w' => e = .returned (.bool (allZ (sameT n) l m)) ∧ Ext w w' := by
 have hln : l.length = ln := by
   obtain ⟨p, c, h1, _⟩ := h.form
   cases h1; rfl
 have hlm : m.length = lm := by
   obtain ⟨p, c, h1, _⟩ := h'.form
   cases h1; rfl
 have hent : ∀ args W, (callFunc 46 args).run Try.prog W = .ok (.enter 46 args) W := enters_of Try.func46 (by kernel_rfl) rfl
 have hl2 : ln ≤ 100000 := by omega
 by_cases hnl : ¬ ln = lm
 · have hnn : ((ln : Int) != (lm : Int)) = true := by simp; omega
   have HX : Hid (allZ (sameT n) l m = false) := allZ_len _ _ _ (by omega)
   clear hx h h' hln hlm hl hnl hent
   go_enter Try.func64, Try.ntmps64
   go_wp2_with fail
   go_ret
   exact ⟨ret_bool (by rw [HX.out]), Ext.refl _⟩
 have hll : ln = lm := Decidable.not_not.1 hnl
 clear hnl
 subst hll
 have HX : Hid (∀ x ∈ l, SmC 46 P n x) := hx
 have HI : Hid (IsL w P (.slice pp ln cl) l ∧ IsL w P (.slice qq ln cm) m) := ⟨h, h'⟩
 have HLN : Hid (l.length = ln ∧ m.length = ln) := ⟨hln, hlm⟩
 have hnn : ((ln : Int) != (ln : Int)) = false := by simp
 have hnm : ((ln : Int) == (ln : Int)) = true := by simp
 clear hx h h' hln hlm hl
 go_enter Try.func64, Try.ntmps64
 go_wp2_with fail
 go_loopw [7, 8, 9, 17] (fun _ _ _ i wr => ∃ j : Nat, j ≤ ln ∧ i = .int .i64 (j : Int) ∧ allZ (sameT n) (l.take j) (m.take j) = true ∧ Ext w wr) (fun _ _ _ i _ => ln - (intOf i).toNat)
 case atStart => exact ⟨0, Nat.zero_le _, rfl, rfl, Ext.refl _⟩
 case round =>
   obtain ⟨j, hj, rfl, hg, hE⟩ := hrel
   have HE : Hid (Ext w wr ∧ allZ (sameT n) (l.take j) (m.take j) = true) := ⟨hE, hg⟩
   clear hE hg
   by_cases hlt : j < ln
   · have hltI : (j : Int) < (ln : Int) := by omega
     obtain ⟨gb, off, x, lv, hpp, hx1, hA1, hgb, hA2, hLx, he⟩ := (HI.out.1.ext HE.out.1).at (i := j) (by rw [HLN.out.1]; exact hlt)
     obtain ⟨gc, ofc, y, lu, hqq, hy1, hA3, hgc, hA4, hLy, hf⟩ := (HI.out.2.ext HE.out.1).at (i := j) (by rw [HLN.out.2]; exact hlt)
     subst hpp
     subst hqq
     obtain ⟨p1, c1, hlv, hcl⟩ := hLx.form
     obtain ⟨p2, c2, hlu, hcm⟩ := hLy.form
     obtain ⟨l1, hl1⟩ : ∃ l1, x.l.length = l1 := ⟨_, rfl⟩
     obtain ⟨l2, hl2'⟩ : ∃ l2, y.l.length = l2 := ⟨_, rfl⟩
     rw [hl1] at hlv
     rw [hl2'] at hlu
     subst hlv
     subst hlu
     have HX1 : Hid (l[j]? = some x ∧ m[j]? = some y) := ⟨hx1, hy1⟩
     have HC : Hid (∀ V, Ext wr V → Calls Try.prog 46 #[.agg #[.int .i64 x.k, .int .i64 x.n, .string (bs x.s), .int .i64 x.e, .int .i64 x.r.1, .int .i64 x.r.2.1, .bool x.r.2.2.1, .bool x.r.2.2.2, .int .i64 x.q.1, .int .i64 x.q.2.1, .bool x.q.2.2.1, .bool x.q.2.2.2, .slice p1 l1 c1], .agg #[.int .i64 y.k, .int .i64 y.n, .string (bs y.s), .int .i64 y.e, .int .i64 y.r.1, .int .i64 y.r.2.1, .bool y.r.2.2.1, .bool y.r.2.2.2, .int .i64 y.q.1, .int .i64 y.q.2.1, .bool y.q.2.2.1, .bool y.q.2.2.2, .slice p2 l2 c2]] V fun e w' => e = .returned (.bool (sameT n x y)) ∧ Ext V w') := fun V e => HX.out x (List.mem_of_getElem? hx1) y V p1 p2 l1 c1 l2 c2 (hLx.ext e) (hLy.ext e)
     have e0 : wr.cell? ⟨gb, off + j * 13, none⟩ = some (.int .i64 x.k) := he 0 _ rfl
     have e1 : wr.cell? ⟨gb, off + j * 13 + 1, none⟩ = some (.int .i64 x.n) := he 1 _ rfl
     have e2 : wr.cell? ⟨gb, off + j * 13 + 2, none⟩ = some (.string (bs x.s)) := he 2 _ rfl
     have e3 : wr.cell? ⟨gb, off + j * 13 + 3, none⟩ = some (.int .i64 x.e) := he 3 _ rfl
     have e4 : wr.cell? ⟨gb, off + j * 13 + 4, none⟩ = some (.int .i64 x.r.1) := he 4 _ rfl
     have e5 : wr.cell? ⟨gb, off + j * 13 + 5, none⟩ = some (.int .i64 x.r.2.1) := he 5 _ rfl
     have e6 : wr.cell? ⟨gb, off + j * 13 + 6, none⟩ = some (.bool x.r.2.2.1) := he 6 _ rfl
     have e7 : wr.cell? ⟨gb, off + j * 13 + 7, none⟩ = some (.bool x.r.2.2.2) := he 7 _ rfl
     have e8 : wr.cell? ⟨gb, off + j * 13 + 8, none⟩ = some (.int .i64 x.q.1) := he 8 _ rfl
     have e9 : wr.cell? ⟨gb, off + j * 13 + 9, none⟩ = some (.int .i64 x.q.2.1) := he 9 _ rfl
     have e10 : wr.cell? ⟨gb, off + j * 13 + 10, none⟩ = some (.bool x.q.2.2.1) := he 10 _ rfl
     have e11 : wr.cell? ⟨gb, off + j * 13 + 11, none⟩ = some (.bool x.q.2.2.2) := he 11 _ rfl
     have e12 : wr.cell? ⟨gb, off + j * 13 + 12, none⟩ = some (.slice p1 l1 c1) := he 12 _ rfl
     have f0 : wr.cell? ⟨gc, ofc + j * 13, none⟩ = some (.int .i64 y.k) := hf 0 _ rfl
     have f1 : wr.cell? ⟨gc, ofc + j * 13 + 1, none⟩ = some (.int .i64 y.n) := hf 1 _ rfl
     have f2 : wr.cell? ⟨gc, ofc + j * 13 + 2, none⟩ = some (.string (bs y.s)) := hf 2 _ rfl
     have f3 : wr.cell? ⟨gc, ofc + j * 13 + 3, none⟩ = some (.int .i64 y.e) := hf 3 _ rfl
     have f4 : wr.cell? ⟨gc, ofc + j * 13 + 4, none⟩ = some (.int .i64 y.r.1) := hf 4 _ rfl
     have f5 : wr.cell? ⟨gc, ofc + j * 13 + 5, none⟩ = some (.int .i64 y.r.2.1) := hf 5 _ rfl
     have f6 : wr.cell? ⟨gc, ofc + j * 13 + 6, none⟩ = some (.bool y.r.2.2.1) := hf 6 _ rfl
     have f7 : wr.cell? ⟨gc, ofc + j * 13 + 7, none⟩ = some (.bool y.r.2.2.2) := hf 7 _ rfl
     have f8 : wr.cell? ⟨gc, ofc + j * 13 + 8, none⟩ = some (.int .i64 y.q.1) := hf 8 _ rfl
     have f9 : wr.cell? ⟨gc, ofc + j * 13 + 9, none⟩ = some (.int .i64 y.q.2.1) := hf 9 _ rfl
     have f10 : wr.cell? ⟨gc, ofc + j * 13 + 10, none⟩ = some (.bool y.q.2.2.1) := hf 10 _ rfl
     have f11 : wr.cell? ⟨gc, ofc + j * 13 + 11, none⟩ = some (.bool y.q.2.2.2) := hf 11 _ rfl
     have f12 : wr.cell? ⟨gc, ofc + j * 13 + 12, none⟩ = some (.slice p2 l2 c2) := hf 12 _ rfl
     clear hx1 hy1 hLx hLy he hf hcl hcm hl1 hl2' hA1 hA2 hA3 hA4
     go_wp2_with fail
     refine (HC.out _ (((Ext.refl _).alloc _).alloc _)).mono ?_
     rintro e w1 ⟨rfl, E1⟩
     have HE1 : Hid (Ext w w1) := ((HE.out.1.alloc _).alloc _).trans E1
     clear E1 e0 e1 e2 e3 e4 e5 e6 e7 e8 e9 e10 e11 e12 f0 f1 f2 f3 f4 f5 f6 f7 f8 f9 f10 f11 f12
     cases hgx : sameT n x y
     · have HR : Hid (allZ (sameT n) l m = false) := allZ_no _ _ _ j x y HX1.out.1 HX1.out.2 hgx
       clear hgx
       go_wp2_with fail
       go_ret
       exact ⟨ret_bool (by rw [HR.out]), HE1.out⟩
     · have HR : Hid (allZ (sameT n) (l.take (j + 1)) (m.take (j + 1)) = true) := by show _ = _; rw [allZ_take _ _ _ j x y HX1.out.1 HX1.out.2, HE.out.2, hgx]; rfl
       clear hgx
       go_wp2_with fail
       go_roundw
       case rel => exact ⟨j + 1, by omega, by go_num, HR.out, HE1.out⟩
       case measure => show ln - ((j : Int) + 1).toNat < ln - ((j : Int)).toNat; omega
   · have hltI : ¬ (j : Int) < (ln : Int) := by omega
     have HR : Hid (allZ (sameT n) l m = true) := by
       show _ = _
       have := HE.out.2
       rw [List.take_of_length_le (by have := HLN.out.1; omega), List.take_of_length_le (by have := HLN.out.2; omega)] at this
       exact this
     go_wp2_with fail
     go_ret
     exact ⟨ret_bool (by rw [HR.out]), HE.out.1⟩
set_option maxRecDepth 100000 in
theorem psame_step (P : Nat → Prop) (n : Nat) (a : T) (hl : a.l.length ≤ 100000) (hx : ∀ x ∈ a.l, SmC 46 P n x) : SmC 46 P (n + 1) a := by
 intro b W pp qq ln cl lm cm hI hJ
 have eR := fun W => eq_rf a.r b.r W
 have eQ := fun W => eq_rf a.q b.q W
 by_cases hnb : ¬ a.k = b.k
 · have hkb := hnb
   clear hnb
   have kn : (a.k != b.k) = true := by simpa using hkb
   have HX : Hid (sameT (n + 1) a b = false) := by show _ = _; unfold sameT; rw [if_pos hkb]
   clear hkb hI hJ hl hx eR eQ
   go_enter Try.func46, Try.ntmps46
   go_wp2_with fail
   go_ret
   exact ⟨ret_bool (by rw [HX.out]), ((Ext.refl _).alloc _).alloc _⟩
 have hkb : a.k = b.k := Decidable.not_not.1 hnb
 clear hnb
 have kn : (a.k != b.k) = false := by rw [hkb]; simp
 by_cases hk : a.k = 0
 · have e0 : (a.k == 0) = true := by rw [hk]; rfl
   have e2 : (a.k == 2) = false := by rw [hk]; rfl
   have e1 : (a.k == 1) = false := by rw [hk]; rfl
   have e3 : (a.k == 3) = false := by rw [hk]; rfl
   have e4 : (a.k == 4) = false := by rw [hk]; rfl
   have e5 : (a.k == 5) = false := by rw [hk]; rfl
   have e7 : (a.k == 7) = false := by rw [hk]; rfl
   have e8 : (a.k == 8) = false := by rw [hk]; rfl
   have HX : Hid (sameT (n + 1) a b = (a.n == b.n)) := by show _ = _; unfold sameT; rw [if_neg (by rw [← hkb]; simp)]; simp [hk]
   clear hk hkb hI hJ hl hx eR eQ
   go_enter Try.func46, Try.ntmps46
   go_wp2_with fail
   go_ret
   exact ⟨ret_bool (by rw [HX.out]), ((Ext.refl _).alloc _).alloc _⟩
 have n0 := hk
 clear hk
 by_cases hk : a.k = 2
 · have e0 : (a.k == 0) = false := by rw [hk]; rfl
   have e2 : (a.k == 2) = true := by rw [hk]; rfl
   have e1 : (a.k == 1) = false := by rw [hk]; rfl
   have e3 : (a.k == 3) = false := by rw [hk]; rfl
   have e4 : (a.k == 4) = false := by rw [hk]; rfl
   have e5 : (a.k == 5) = false := by rw [hk]; rfl
   have e7 : (a.k == 7) = false := by rw [hk]; rfl
   have e8 : (a.k == 8) = false := by rw [hk]; rfl
   have HX : Hid (sameT (n + 1) a b = (a.n == b.n)) := by show _ = _; unfold sameT; rw [if_neg (by rw [← hkb]; simp)]; simp [hk]
   clear hk hkb hI hJ hl hx eR eQ
   go_enter Try.func46, Try.ntmps46
   go_wp2_with fail
   go_ret
   exact ⟨ret_bool (by rw [HX.out]), ((Ext.refl _).alloc _).alloc _⟩
 have n2 := hk
 clear hk
 by_cases hk : a.k = 1
 · have e0 : (a.k == 0) = false := by rw [hk]; rfl
   have e2 : (a.k == 2) = false := by rw [hk]; rfl
   have e1 : (a.k == 1) = true := by rw [hk]; rfl
   have e3 : (a.k == 3) = false := by rw [hk]; rfl
   have e4 : (a.k == 4) = false := by rw [hk]; rfl
   have e5 : (a.k == 5) = false := by rw [hk]; rfl
   have e7 : (a.k == 7) = false := by rw [hk]; rfl
   have e8 : (a.k == 8) = false := by rw [hk]; rfl
   have HX : Hid (sameT (n + 1) a b = (a.s == b.s)) := by show _ = _; unfold sameT; rw [if_neg (by rw [← hkb]; simp)]; simp [hk]
   have es : ((bs a.s).toList == (bs b.s).toList) = (a.s == b.s) := by rw [bs_tl9, bs_tl9]
   generalize bs a.s = qa at *
   generalize bs b.s = qb at *
   clear hk hkb hI hJ hl hx eR eQ
   go_enter Try.func46, Try.ntmps46
   go_wp2_with fail
   go_ret
   exact ⟨ret_bool (by rw [HX.out]), ((Ext.refl _).alloc _).alloc _⟩
 have n1 := hk
 clear hk
 by_cases hk : a.k = 3
 · have e0 : (a.k == 0) = false := by rw [hk]; rfl
   have e2 : (a.k == 2) = false := by rw [hk]; rfl
   have e1 : (a.k == 1) = false := by rw [hk]; rfl
   have e3 : (a.k == 3) = true := by rw [hk]; rfl
   have e4 : (a.k == 4) = false := by rw [hk]; rfl
   have e5 : (a.k == 5) = false := by rw [hk]; rfl
   have e7 : (a.k == 7) = false := by rw [hk]; rfl
   have e8 : (a.k == 8) = false := by rw [hk]; rfl
   have HX : Hid (sameT (n + 1) a b = (a.e == b.e)) := by show _ = _; unfold sameT; rw [if_neg (by rw [← hkb]; simp)]; simp [hk]
   clear hk hkb hI hJ hl hx eR eQ
   go_enter Try.func46, Try.ntmps46
   go_wp2_with fail
   go_ret
   exact ⟨ret_bool (by rw [HX.out]), ((Ext.refl _).alloc _).alloc _⟩
 have n3 := hk
 clear hk
 by_cases hk : a.k = 4
 · have e0 : (a.k == 0) = false := by rw [hk]; rfl
   have e2 : (a.k == 2) = false := by rw [hk]; rfl
   have e1 : (a.k == 1) = false := by rw [hk]; rfl
   have e3 : (a.k == 3) = false := by rw [hk]; rfl
   have e4 : (a.k == 4) = true := by rw [hk]; rfl
   have e5 : (a.k == 5) = false := by rw [hk]; rfl
   have e7 : (a.k == 7) = false := by rw [hk]; rfl
   have e8 : (a.k == 8) = false := by rw [hk]; rfl
   have HX : Hid (sameT (n + 1) a b = decide (a.r = b.r)) := by show _ = _; unfold sameT; rw [if_neg (by rw [← hkb]; simp)]; simp [hk]
   have g1 := gd_rf
   clear hk hkb hI hJ hl hx
   go_enter Try.func46, Try.ntmps46
   go_wp2_with fail
   go_ret
   exact ⟨ret_bool (by rw [HX.out]), ((Ext.refl _).alloc _).alloc _⟩
 have n4 := hk
 clear hk
 by_cases hk : a.k = 5
 · have e0 : (a.k == 0) = false := by rw [hk]; rfl
   have e2 : (a.k == 2) = false := by rw [hk]; rfl
   have e1 : (a.k == 1) = false := by rw [hk]; rfl
   have e3 : (a.k == 3) = false := by rw [hk]; rfl
   have e4 : (a.k == 4) = false := by rw [hk]; rfl
   have e5 : (a.k == 5) = true := by rw [hk]; rfl
   have e7 : (a.k == 7) = false := by rw [hk]; rfl
   have e8 : (a.k == 8) = false := by rw [hk]; rfl
   have HX : Hid (sameT (n + 1) a b = (decide (a.r = b.r) && decide (a.q = b.q))) := by show _ = _; unfold sameT; rw [if_neg (by rw [← hkb]; simp)]; simp [hk]
   have g1 := gd_rf
   clear hk hkb hI hJ hl hx
   cases hr : decide (a.r = b.r)
   · rw [hr] at HX eR
     clear hr
     go_enter Try.func46, Try.ntmps46
     go_wp2_with fail
     go_ret
     exact ⟨ret_bool (by rw [HX.out]; rfl), ((Ext.refl _).alloc _).alloc _⟩
   · rw [hr] at HX eR
     clear hr
     go_enter Try.func46, Try.ntmps46
     go_wp2_with fail
     go_ret
     exact ⟨ret_bool (by rw [HX.out]; rfl), ((Ext.refl _).alloc _).alloc _⟩
 have n5 := hk
 clear hk
 by_cases hk : a.k = 6
 · have e0 : (a.k == 0) = false := by rw [hk]; rfl
   have e2 : (a.k == 2) = false := by rw [hk]; rfl
   have e1 : (a.k == 1) = false := by rw [hk]; rfl
   have e3 : (a.k == 3) = false := by rw [hk]; rfl
   have e4 : (a.k == 4) = false := by rw [hk]; rfl
   have e5 : (a.k == 5) = false := by rw [hk]; rfl
   have e7 : (a.k == 7) = false := by rw [hk]; rfl
   have e8 : (a.k == 8) = false := by rw [hk]; rfl
   have cP := fun W => xparts_any a pp ln cl W
   have cQ := fun W => xparts_any b qq lm cm W
   rw [ptV_yes (show a.k = 6 ∨ a.k = 7 ∨ a.k = 8 by omega)] at cP
   rw [ptV_yes (show b.k = 6 ∨ b.k = 7 ∨ b.k = 8 by omega)] at cQ
   have HEQ : Hid (∀ V, Ext W V → Calls Try.prog 64 #[.slice pp ln cl, .slice qq lm cm, .func (.func 46) #[] #[]] V fun e w' => e = .returned (.bool (allZ (sameT n) a.l b.l)) ∧ Ext V w') := fun V e => equal_any P n a.l b.l pp qq ln cl lm cm V hl hx (hI.ext e) (hJ.ext e)
   have HX : Hid (sameT (n + 1) a b = allZ (sameT n) a.l b.l) := by show _ = _; unfold sameT; rw [if_neg (by rw [← hkb]; simp)]; simp [hk]
   clear hk hkb hI hJ hl hx eR eQ
   go_enter Try.func46, Try.ntmps46
   go_wp2_with fail
   have HF : Hid (BlkX ((W.alloc (.cells #[.int .i64 a.k, .int .i64 a.n, .string (bs a.s), .int .i64 a.e, .int .i64 a.r.1, .int .i64 a.r.2.1, .bool a.r.2.2.1, .bool a.r.2.2.2, .int .i64 a.q.1, .int .i64 a.q.2.1, .bool a.q.2.2.1, .bool a.q.2.2.2, .slice pp ln cl] 29)).alloc (.cells #[.int .i64 b.k, .int .i64 b.n, .string (bs b.s), .int .i64 b.e, .int .i64 b.r.1, .int .i64 b.r.2.1, .bool b.r.2.2.1, .bool b.r.2.2.2, .int .i64 b.q.1, .int .i64 b.q.2.1, .bool b.q.2.2.1, .bool b.q.2.2.2, .slice qq lm cm] 29)) W.heap.size a (.slice pp ln cl) ∧ BlkX ((W.alloc (.cells #[.int .i64 a.k, .int .i64 a.n, .string (bs a.s), .int .i64 a.e, .int .i64 a.r.1, .int .i64 a.r.2.1, .bool a.r.2.2.1, .bool a.r.2.2.2, .int .i64 a.q.1, .int .i64 a.q.2.1, .bool a.q.2.2.1, .bool a.q.2.2.2, .slice pp ln cl] 29)).alloc (.cells #[.int .i64 b.k, .int .i64 b.n, .string (bs b.s), .int .i64 b.e, .int .i64 b.r.1, .int .i64 b.r.2.1, .bool b.r.2.2.1, .bool b.r.2.2.2, .int .i64 b.q.1, .int .i64 b.q.2.1, .bool b.q.2.2.1, .bool b.q.2.2.2, .slice qq lm cm] 29)) (W.heap.size + 1) b (.slice qq lm cm) ∧ Ext W ((W.alloc (.cells #[.int .i64 a.k, .int .i64 a.n, .string (bs a.s), .int .i64 a.e, .int .i64 a.r.1, .int .i64 a.r.2.1, .bool a.r.2.2.1, .bool a.r.2.2.2, .int .i64 a.q.1, .int .i64 a.q.2.1, .bool a.q.2.2.1, .bool a.q.2.2.2, .slice pp ln cl] 29)).alloc (.cells #[.int .i64 b.k, .int .i64 b.n, .string (bs b.s), .int .i64 b.e, .int .i64 b.r.1, .int .i64 b.r.2.1, .bool b.r.2.2.1, .bool b.r.2.2.2, .int .i64 b.q.1, .int .i64 b.q.2.1, .bool b.q.2.2.1, .bool b.q.2.2.2, .slice qq lm cm] 29))) := ⟨blk13_top rfl ((Ext.refl _).alloc _), blk13_top (by simp) (Ext.refl _), ((Ext.refl _).alloc _).alloc _⟩
   generalize ((W.alloc (.cells #[.int .i64 a.k, .int .i64 a.n, .string (bs a.s), .int .i64 a.e, .int .i64 a.r.1, .int .i64 a.r.2.1, .bool a.r.2.2.1, .bool a.r.2.2.2, .int .i64 a.q.1, .int .i64 a.q.2.1, .bool a.q.2.2.1, .bool a.q.2.2.2, .slice pp ln cl] 29)).alloc (.cells #[.int .i64 b.k, .int .i64 b.n, .string (bs b.s), .int .i64 b.e, .int .i64 b.r.1, .int .i64 b.r.2.1, .bool b.r.2.2.1, .bool b.r.2.2.2, .int .i64 b.q.1, .int .i64 b.q.2.1, .bool b.q.2.2.1, .bool b.q.2.2.2, .slice qq lm cm] 29)) = W2 at *
   have mkS : Hid (∀ V, Ext W2 V → V.cell? ⟨W.heap.size, 0, none⟩ = some (.int .i64 a.k) ∧ V.cell? ⟨W.heap.size, 1, none⟩ = some (.int .i64 a.n) ∧ V.cell? ⟨W.heap.size, 2, none⟩ = some (.string (bs a.s)) ∧ V.cell? ⟨W.heap.size, 3, none⟩ = some (.int .i64 a.e) ∧ V.cell? ⟨W.heap.size, 4, none⟩ = some (.int .i64 a.r.1) ∧ V.cell? ⟨W.heap.size, 5, none⟩ = some (.int .i64 a.r.2.1) ∧ V.cell? ⟨W.heap.size, 6, none⟩ = some (.bool a.r.2.2.1) ∧ V.cell? ⟨W.heap.size, 7, none⟩ = some (.bool a.r.2.2.2) ∧ V.cell? ⟨W.heap.size, 8, none⟩ = some (.int .i64 a.q.1) ∧ V.cell? ⟨W.heap.size, 9, none⟩ = some (.int .i64 a.q.2.1) ∧ V.cell? ⟨W.heap.size, 10, none⟩ = some (.bool a.q.2.2.1) ∧ V.cell? ⟨W.heap.size, 11, none⟩ = some (.bool a.q.2.2.2) ∧ V.cell? ⟨W.heap.size, 12, none⟩ = some (.slice pp ln cl) ∧ V.cell? ⟨W.heap.size + 1, 0, none⟩ = some (.int .i64 b.k) ∧ V.cell? ⟨W.heap.size + 1, 1, none⟩ = some (.int .i64 b.n) ∧ V.cell? ⟨W.heap.size + 1, 2, none⟩ = some (.string (bs b.s)) ∧ V.cell? ⟨W.heap.size + 1, 3, none⟩ = some (.int .i64 b.e) ∧ V.cell? ⟨W.heap.size + 1, 4, none⟩ = some (.int .i64 b.r.1) ∧ V.cell? ⟨W.heap.size + 1, 5, none⟩ = some (.int .i64 b.r.2.1) ∧ V.cell? ⟨W.heap.size + 1, 6, none⟩ = some (.bool b.r.2.2.1) ∧ V.cell? ⟨W.heap.size + 1, 7, none⟩ = some (.bool b.r.2.2.2) ∧ V.cell? ⟨W.heap.size + 1, 8, none⟩ = some (.int .i64 b.q.1) ∧ V.cell? ⟨W.heap.size + 1, 9, none⟩ = some (.int .i64 b.q.2.1) ∧ V.cell? ⟨W.heap.size + 1, 10, none⟩ = some (.bool b.q.2.2.1) ∧ V.cell? ⟨W.heap.size + 1, 11, none⟩ = some (.bool b.q.2.2.2) ∧ V.cell? ⟨W.heap.size + 1, 12, none⟩ = some (.slice qq lm cm)) := fun V e => by
     obtain ⟨qz, ⟨k0, k1, k2, k3, k4, k5, k6, k7, k8, k9, k10, k11, k12⟩, gz⟩ := HF.out.1.ext e
     obtain ⟨qy, ⟨m0, m1, m2, m3, m4, m5, m6, m7, m8, m9, m10, m11, m12⟩, gy⟩ := HF.out.2.1.ext e
     exact ⟨k0, k1, k2, k3, k4, k5, k6, k7, k8, k9, k10, k11, k12, m0, m1, m2, m3, m4, m5, m6, m7, m8, m9, m10, m11, m12⟩
   refine wp_region_held_drew (S := (fun V => V.cell? ⟨W.heap.size, 0, none⟩ = some (.int .i64 a.k) ∧ V.cell? ⟨W.heap.size, 1, none⟩ = some (.int .i64 a.n) ∧ V.cell? ⟨W.heap.size, 2, none⟩ = some (.string (bs a.s)) ∧ V.cell? ⟨W.heap.size, 3, none⟩ = some (.int .i64 a.e) ∧ V.cell? ⟨W.heap.size, 4, none⟩ = some (.int .i64 a.r.1) ∧ V.cell? ⟨W.heap.size, 5, none⟩ = some (.int .i64 a.r.2.1) ∧ V.cell? ⟨W.heap.size, 6, none⟩ = some (.bool a.r.2.2.1) ∧ V.cell? ⟨W.heap.size, 7, none⟩ = some (.bool a.r.2.2.2) ∧ V.cell? ⟨W.heap.size, 8, none⟩ = some (.int .i64 a.q.1) ∧ V.cell? ⟨W.heap.size, 9, none⟩ = some (.int .i64 a.q.2.1) ∧ V.cell? ⟨W.heap.size, 10, none⟩ = some (.bool a.q.2.2.1) ∧ V.cell? ⟨W.heap.size, 11, none⟩ = some (.bool a.q.2.2.2) ∧ V.cell? ⟨W.heap.size, 12, none⟩ = some (.slice pp ln cl) ∧ V.cell? ⟨W.heap.size + 1, 0, none⟩ = some (.int .i64 b.k) ∧ V.cell? ⟨W.heap.size + 1, 1, none⟩ = some (.int .i64 b.n) ∧ V.cell? ⟨W.heap.size + 1, 2, none⟩ = some (.string (bs b.s)) ∧ V.cell? ⟨W.heap.size + 1, 3, none⟩ = some (.int .i64 b.e) ∧ V.cell? ⟨W.heap.size + 1, 4, none⟩ = some (.int .i64 b.r.1) ∧ V.cell? ⟨W.heap.size + 1, 5, none⟩ = some (.int .i64 b.r.2.1) ∧ V.cell? ⟨W.heap.size + 1, 6, none⟩ = some (.bool b.r.2.2.1) ∧ V.cell? ⟨W.heap.size + 1, 7, none⟩ = some (.bool b.r.2.2.2) ∧ V.cell? ⟨W.heap.size + 1, 8, none⟩ = some (.int .i64 b.q.1) ∧ V.cell? ⟨W.heap.size + 1, 9, none⟩ = some (.int .i64 b.q.2.1) ∧ V.cell? ⟨W.heap.size + 1, 10, none⟩ = some (.bool b.q.2.2.1) ∧ V.cell? ⟨W.heap.size + 1, 11, none⟩ = some (.bool b.q.2.2.2) ∧ V.cell? ⟨W.heap.size + 1, 12, none⟩ = some (.slice qq lm cm))) (by kernel_rfl) ?_ (fun hHeld0 => ?_)
   · (refine mkS.out _ ?_; ((with_reducible (repeat (first | assumption | exact Ext.refl _ | apply Ext.alloc | apply Ext.drew | apply Ext.drewN))); done))
   refine wpAnyH_take (i := 0) (oi := ⟨some 63, .load 29 (.tmp 2), 29, "parse.go:93", #[], none⟩) (v := ?_) rfl (by kernel_rfl) (by kernel_rfl) (by kernel_rfl) (fun _ _ _ h => h) (Or.inl ⟨by rfl, ?_⟩) (by assumption) ?_
   rotate_left
   · intro w hSw; (try dsimp only at hSw); first | (go_simp; done) | (go_simp; with_reducible rfl)
   try simp only [Act.put, List.setIfInBounds_toArray, List.set_cons_zero, List.set_cons_succ]
   refine wpAnyH_take (i := 2) (oi := ⟨some 65, .load 29 (.tmp 3), 29, "parse.go:93", #[], none⟩) (v := ?_) rfl (by kernel_rfl) (by kernel_rfl) (by kernel_rfl) (fun _ _ _ h => h) (Or.inl ⟨by rfl, ?_⟩) (by assumption) ?_
   rotate_left
   · intro w hSw; (try dsimp only at hSw); first | (go_simp; done) | (go_simp; with_reducible rfl)
   try simp only [Act.put, List.setIfInBounds_toArray, List.set_cons_zero, List.set_cons_succ]
   refine wpAnyH_ready (rs := [1]) (by kernel_rfl) (by simp) ?_
   refine AllReadyH.cons (o := ⟨some 64, .call { callee := .value (.func 65), args := #[.tmp 63], argTypes := #[29] }, 27, "parse.go:93", #[⟨0, .data⟩], none⟩) rfl (fun K hK => ?_) AllReadyH.nil
   go_simp
   (go_at_call 65; refine Calls.mono (cP _) ?_; rintro e y1 ⟨rfl, E1⟩; have X1 : Ext W2 y1 := Ext.trans (by with_reducible repeat (first | assumption | exact Ext.refl _ | apply Ext.alloc | apply Ext.drew | apply Ext.drewN)) E1)
   try go_wp2_with fail
   refine hK.out _ _ ?_ (fun hHeld1 => ?_)
   · (try dsimp only); (refine mkS.out _ ?_; ((with_reducible (repeat (first | assumption | exact Ext.refl _ | apply Ext.alloc | apply Ext.drew | apply Ext.drewN))); done))
   clear hK K hHeld0
   try simp only [Act.put, List.setIfInBounds_toArray, List.set_cons_zero, List.set_cons_succ]
   refine wpAnyH_ready (rs := [3]) (by kernel_rfl) (by simp) ?_
   refine AllReadyH.cons (o := ⟨some 66, .call { callee := .value (.func 65), args := #[.tmp 65], argTypes := #[29] }, 27, "parse.go:93", #[⟨2, .data⟩, ⟨1, .chain⟩], none⟩) rfl (fun K hK => ?_) AllReadyH.nil
   go_simp
   (go_at_call 65; refine Calls.mono (cQ _) ?_; rintro e y2 ⟨rfl, E2⟩; have X2 : Ext W2 y2 := Ext.trans (by with_reducible repeat (first | assumption | exact Ext.refl _ | apply Ext.alloc | apply Ext.drew | apply Ext.drewN)) E2)
   try go_wp2_with fail
   refine hK.out _ _ ?_ (fun hHeld2 => ?_)
   · (try dsimp only); (refine mkS.out _ ?_; ((with_reducible (repeat (first | assumption | exact Ext.refl _ | apply Ext.alloc | apply Ext.drew | apply Ext.drewN))); done))
   clear hK K hHeld1
   try simp only [Act.put, List.setIfInBounds_toArray, List.set_cons_zero, List.set_cons_succ]
   refine wpAnyH_ready (rs := [4]) (by kernel_rfl) (by simp) ?_
   refine AllReadyH.cons (o := ⟨some 67, .call { callee := .value (.func 64), args := #[.tmp 64, .tmp 66, .func 46], argTypes := #[27, 27, 89] }, 4, "parse.go:93", #[⟨1, .data⟩, ⟨3, .data⟩, ⟨3, .chain⟩], none⟩) rfl (fun K hK => ?_) AllReadyH.nil
   go_simp
   (go_at_call 64; refine Calls.mono (HEQ.out _ (HF.out.2.2.trans (by with_reducible repeat (first | assumption | exact Ext.refl _ | apply Ext.alloc | apply Ext.drew | apply Ext.drewN)))) ?_; rintro e y3 ⟨rfl, E3⟩; have X3 : Ext W2 y3 := Ext.trans (by with_reducible repeat (first | assumption | exact Ext.refl _ | apply Ext.alloc | apply Ext.drew | apply Ext.drewN)) E3)
   try go_wp2_with fail
   refine hK.out _ _ ?_ (fun hHeld3 => ?_)
   · (try dsimp only); (refine mkS.out _ ?_; ((with_reducible (repeat (first | assumption | exact Ext.refl _ | apply Ext.alloc | apply Ext.drew | apply Ext.drewN))); done))
   clear hK K hHeld2
   try simp only [Act.put, List.setIfInBounds_toArray, List.set_cons_zero, List.set_cons_succ]
   refine wpAnyH_take (i := 5) (oi := ⟨some 4, .assign (.tmp 67), 4, "parse.go:93", #[⟨4, .data⟩, ⟨4, .chain⟩, ⟨0, .phase⟩, ⟨1, .phase⟩, ⟨2, .phase⟩, ⟨3, .phase⟩, ⟨4, .phase⟩], none⟩) (v := ?_) rfl (by kernel_rfl) (by kernel_rfl) (by kernel_rfl) (fun _ _ _ h => h) (Or.inl ⟨by rfl, ?_⟩) (by assumption) ?_
   rotate_left
   · intro w hSw; (try dsimp only at hSw); first | (go_simp; done) | (go_simp; with_reducible rfl)
   try simp only [Act.put, List.setIfInBounds_toArray, List.set_cons_zero, List.set_cons_succ]
   refine wpAnyH_done (by kernel_rfl) ?_ _
   go_wp2_with fail
   go_ret
   exact ⟨ret_bool (by rw [HX.out]), HF.out.2.2.trans (by assumption)⟩
 have n6 := hk
 clear hk
 by_cases hk : a.k = 7
 · have e0 : (a.k == 0) = false := by rw [hk]; rfl
   have e2 : (a.k == 2) = false := by rw [hk]; rfl
   have e1 : (a.k == 1) = false := by rw [hk]; rfl
   have e3 : (a.k == 3) = false := by rw [hk]; rfl
   have e4 : (a.k == 4) = false := by rw [hk]; rfl
   have e5 : (a.k == 5) = false := by rw [hk]; rfl
   have e7 : (a.k == 7) = true := by rw [hk]; rfl
   have e8 : (a.k == 8) = false := by rw [hk]; rfl
   have cP := fun W => xparts_any a pp ln cl W
   have cQ := fun W => xparts_any b qq lm cm W
   rw [ptV_yes (show a.k = 6 ∨ a.k = 7 ∨ a.k = 8 by omega)] at cP
   rw [ptV_yes (show b.k = 6 ∨ b.k = 7 ∨ b.k = 8 by omega)] at cQ
   have HEQ : Hid (∀ V, Ext W V → Calls Try.prog 64 #[.slice pp ln cl, .slice qq lm cm, .func (.func 46) #[] #[]] V fun e w' => e = .returned (.bool (allZ (sameT n) a.l b.l)) ∧ Ext V w') := fun V e => equal_any P n a.l b.l pp qq ln cl lm cm V hl hx (hI.ext e) (hJ.ext e)
   by_cases hns : ¬ a.s = b.s
   · have hs := hns
     clear hns
     have es : ((bs a.s).toList == (bs b.s).toList) = false := by rw [bs_tl9, bs_tl9]; simpa using hs
     have HX : Hid (sameT (n + 1) a b = false) := by show _ = _; unfold sameT; rw [if_neg (by rw [← hkb]; simp)]; simp [hk, hs]
     generalize bs a.s = qa at *
     generalize bs b.s = qb at *
     clear hk hkb hI hJ hl hx hs eR eQ cP cQ
     go_enter Try.func46, Try.ntmps46
     go_wp2_with fail
     go_ret
     exact ⟨ret_bool (by rw [HX.out]), ((Ext.refl _).alloc _).alloc _⟩
   have hs : a.s = b.s := Decidable.not_not.1 hns
   clear hns
   have es : ((bs a.s).toList == (bs b.s).toList) = true := by rw [bs_tl9, bs_tl9]; simpa using hs
   have HX : Hid (sameT (n + 1) a b = allZ (sameT n) a.l b.l) := by show _ = _; unfold sameT; rw [if_neg (by rw [← hkb]; simp)]; simp [hk, hs]
   clear hk hkb hI hJ hl hx hs eR eQ
   go_enter Try.func46, Try.ntmps46
   go_wp2_with fail
   have HF : Hid (BlkX ((W.alloc (.cells #[.int .i64 a.k, .int .i64 a.n, .string (bs a.s), .int .i64 a.e, .int .i64 a.r.1, .int .i64 a.r.2.1, .bool a.r.2.2.1, .bool a.r.2.2.2, .int .i64 a.q.1, .int .i64 a.q.2.1, .bool a.q.2.2.1, .bool a.q.2.2.2, .slice pp ln cl] 29)).alloc (.cells #[.int .i64 b.k, .int .i64 b.n, .string (bs b.s), .int .i64 b.e, .int .i64 b.r.1, .int .i64 b.r.2.1, .bool b.r.2.2.1, .bool b.r.2.2.2, .int .i64 b.q.1, .int .i64 b.q.2.1, .bool b.q.2.2.1, .bool b.q.2.2.2, .slice qq lm cm] 29)) W.heap.size a (.slice pp ln cl) ∧ BlkX ((W.alloc (.cells #[.int .i64 a.k, .int .i64 a.n, .string (bs a.s), .int .i64 a.e, .int .i64 a.r.1, .int .i64 a.r.2.1, .bool a.r.2.2.1, .bool a.r.2.2.2, .int .i64 a.q.1, .int .i64 a.q.2.1, .bool a.q.2.2.1, .bool a.q.2.2.2, .slice pp ln cl] 29)).alloc (.cells #[.int .i64 b.k, .int .i64 b.n, .string (bs b.s), .int .i64 b.e, .int .i64 b.r.1, .int .i64 b.r.2.1, .bool b.r.2.2.1, .bool b.r.2.2.2, .int .i64 b.q.1, .int .i64 b.q.2.1, .bool b.q.2.2.1, .bool b.q.2.2.2, .slice qq lm cm] 29)) (W.heap.size + 1) b (.slice qq lm cm) ∧ Ext W ((W.alloc (.cells #[.int .i64 a.k, .int .i64 a.n, .string (bs a.s), .int .i64 a.e, .int .i64 a.r.1, .int .i64 a.r.2.1, .bool a.r.2.2.1, .bool a.r.2.2.2, .int .i64 a.q.1, .int .i64 a.q.2.1, .bool a.q.2.2.1, .bool a.q.2.2.2, .slice pp ln cl] 29)).alloc (.cells #[.int .i64 b.k, .int .i64 b.n, .string (bs b.s), .int .i64 b.e, .int .i64 b.r.1, .int .i64 b.r.2.1, .bool b.r.2.2.1, .bool b.r.2.2.2, .int .i64 b.q.1, .int .i64 b.q.2.1, .bool b.q.2.2.1, .bool b.q.2.2.2, .slice qq lm cm] 29))) := ⟨blk13_top rfl ((Ext.refl _).alloc _), blk13_top (by simp) (Ext.refl _), ((Ext.refl _).alloc _).alloc _⟩
   generalize ((W.alloc (.cells #[.int .i64 a.k, .int .i64 a.n, .string (bs a.s), .int .i64 a.e, .int .i64 a.r.1, .int .i64 a.r.2.1, .bool a.r.2.2.1, .bool a.r.2.2.2, .int .i64 a.q.1, .int .i64 a.q.2.1, .bool a.q.2.2.1, .bool a.q.2.2.2, .slice pp ln cl] 29)).alloc (.cells #[.int .i64 b.k, .int .i64 b.n, .string (bs b.s), .int .i64 b.e, .int .i64 b.r.1, .int .i64 b.r.2.1, .bool b.r.2.2.1, .bool b.r.2.2.2, .int .i64 b.q.1, .int .i64 b.q.2.1, .bool b.q.2.2.1, .bool b.q.2.2.2, .slice qq lm cm] 29)) = W2 at *
   have mkS : Hid (∀ V, Ext W2 V → V.cell? ⟨W.heap.size, 0, none⟩ = some (.int .i64 a.k) ∧ V.cell? ⟨W.heap.size, 1, none⟩ = some (.int .i64 a.n) ∧ V.cell? ⟨W.heap.size, 2, none⟩ = some (.string (bs a.s)) ∧ V.cell? ⟨W.heap.size, 3, none⟩ = some (.int .i64 a.e) ∧ V.cell? ⟨W.heap.size, 4, none⟩ = some (.int .i64 a.r.1) ∧ V.cell? ⟨W.heap.size, 5, none⟩ = some (.int .i64 a.r.2.1) ∧ V.cell? ⟨W.heap.size, 6, none⟩ = some (.bool a.r.2.2.1) ∧ V.cell? ⟨W.heap.size, 7, none⟩ = some (.bool a.r.2.2.2) ∧ V.cell? ⟨W.heap.size, 8, none⟩ = some (.int .i64 a.q.1) ∧ V.cell? ⟨W.heap.size, 9, none⟩ = some (.int .i64 a.q.2.1) ∧ V.cell? ⟨W.heap.size, 10, none⟩ = some (.bool a.q.2.2.1) ∧ V.cell? ⟨W.heap.size, 11, none⟩ = some (.bool a.q.2.2.2) ∧ V.cell? ⟨W.heap.size, 12, none⟩ = some (.slice pp ln cl) ∧ V.cell? ⟨W.heap.size + 1, 0, none⟩ = some (.int .i64 b.k) ∧ V.cell? ⟨W.heap.size + 1, 1, none⟩ = some (.int .i64 b.n) ∧ V.cell? ⟨W.heap.size + 1, 2, none⟩ = some (.string (bs b.s)) ∧ V.cell? ⟨W.heap.size + 1, 3, none⟩ = some (.int .i64 b.e) ∧ V.cell? ⟨W.heap.size + 1, 4, none⟩ = some (.int .i64 b.r.1) ∧ V.cell? ⟨W.heap.size + 1, 5, none⟩ = some (.int .i64 b.r.2.1) ∧ V.cell? ⟨W.heap.size + 1, 6, none⟩ = some (.bool b.r.2.2.1) ∧ V.cell? ⟨W.heap.size + 1, 7, none⟩ = some (.bool b.r.2.2.2) ∧ V.cell? ⟨W.heap.size + 1, 8, none⟩ = some (.int .i64 b.q.1) ∧ V.cell? ⟨W.heap.size + 1, 9, none⟩ = some (.int .i64 b.q.2.1) ∧ V.cell? ⟨W.heap.size + 1, 10, none⟩ = some (.bool b.q.2.2.1) ∧ V.cell? ⟨W.heap.size + 1, 11, none⟩ = some (.bool b.q.2.2.2) ∧ V.cell? ⟨W.heap.size + 1, 12, none⟩ = some (.slice qq lm cm)) := fun V e => by
     obtain ⟨qz, ⟨k0, k1, k2, k3, k4, k5, k6, k7, k8, k9, k10, k11, k12⟩, gz⟩ := HF.out.1.ext e
     obtain ⟨qy, ⟨m0, m1, m2, m3, m4, m5, m6, m7, m8, m9, m10, m11, m12⟩, gy⟩ := HF.out.2.1.ext e
     exact ⟨k0, k1, k2, k3, k4, k5, k6, k7, k8, k9, k10, k11, k12, m0, m1, m2, m3, m4, m5, m6, m7, m8, m9, m10, m11, m12⟩
   refine wp_region_held_drew (S := (fun V => V.cell? ⟨W.heap.size, 0, none⟩ = some (.int .i64 a.k) ∧ V.cell? ⟨W.heap.size, 1, none⟩ = some (.int .i64 a.n) ∧ V.cell? ⟨W.heap.size, 2, none⟩ = some (.string (bs a.s)) ∧ V.cell? ⟨W.heap.size, 3, none⟩ = some (.int .i64 a.e) ∧ V.cell? ⟨W.heap.size, 4, none⟩ = some (.int .i64 a.r.1) ∧ V.cell? ⟨W.heap.size, 5, none⟩ = some (.int .i64 a.r.2.1) ∧ V.cell? ⟨W.heap.size, 6, none⟩ = some (.bool a.r.2.2.1) ∧ V.cell? ⟨W.heap.size, 7, none⟩ = some (.bool a.r.2.2.2) ∧ V.cell? ⟨W.heap.size, 8, none⟩ = some (.int .i64 a.q.1) ∧ V.cell? ⟨W.heap.size, 9, none⟩ = some (.int .i64 a.q.2.1) ∧ V.cell? ⟨W.heap.size, 10, none⟩ = some (.bool a.q.2.2.1) ∧ V.cell? ⟨W.heap.size, 11, none⟩ = some (.bool a.q.2.2.2) ∧ V.cell? ⟨W.heap.size, 12, none⟩ = some (.slice pp ln cl) ∧ V.cell? ⟨W.heap.size + 1, 0, none⟩ = some (.int .i64 b.k) ∧ V.cell? ⟨W.heap.size + 1, 1, none⟩ = some (.int .i64 b.n) ∧ V.cell? ⟨W.heap.size + 1, 2, none⟩ = some (.string (bs b.s)) ∧ V.cell? ⟨W.heap.size + 1, 3, none⟩ = some (.int .i64 b.e) ∧ V.cell? ⟨W.heap.size + 1, 4, none⟩ = some (.int .i64 b.r.1) ∧ V.cell? ⟨W.heap.size + 1, 5, none⟩ = some (.int .i64 b.r.2.1) ∧ V.cell? ⟨W.heap.size + 1, 6, none⟩ = some (.bool b.r.2.2.1) ∧ V.cell? ⟨W.heap.size + 1, 7, none⟩ = some (.bool b.r.2.2.2) ∧ V.cell? ⟨W.heap.size + 1, 8, none⟩ = some (.int .i64 b.q.1) ∧ V.cell? ⟨W.heap.size + 1, 9, none⟩ = some (.int .i64 b.q.2.1) ∧ V.cell? ⟨W.heap.size + 1, 10, none⟩ = some (.bool b.q.2.2.1) ∧ V.cell? ⟨W.heap.size + 1, 11, none⟩ = some (.bool b.q.2.2.2) ∧ V.cell? ⟨W.heap.size + 1, 12, none⟩ = some (.slice qq lm cm))) (by kernel_rfl) ?_ (fun hHeld0 => ?_)
   · (refine mkS.out _ ?_; ((with_reducible (repeat (first | assumption | exact Ext.refl _ | apply Ext.alloc | apply Ext.drew | apply Ext.drewN))); done))
   refine wpAnyH_take (i := 0) (oi := ⟨some 63, .load 29 (.tmp 2), 29, "parse.go:93", #[], none⟩) (v := ?_) rfl (by kernel_rfl) (by kernel_rfl) (by kernel_rfl) (fun _ _ _ h => h) (Or.inl ⟨by rfl, ?_⟩) (by assumption) ?_
   rotate_left
   · intro w hSw; (try dsimp only at hSw); first | (go_simp; done) | (go_simp; with_reducible rfl)
   try simp only [Act.put, List.setIfInBounds_toArray, List.set_cons_zero, List.set_cons_succ]
   refine wpAnyH_take (i := 2) (oi := ⟨some 65, .load 29 (.tmp 3), 29, "parse.go:93", #[], none⟩) (v := ?_) rfl (by kernel_rfl) (by kernel_rfl) (by kernel_rfl) (fun _ _ _ h => h) (Or.inl ⟨by rfl, ?_⟩) (by assumption) ?_
   rotate_left
   · intro w hSw; (try dsimp only at hSw); first | (go_simp; done) | (go_simp; with_reducible rfl)
   try simp only [Act.put, List.setIfInBounds_toArray, List.set_cons_zero, List.set_cons_succ]
   refine wpAnyH_ready (rs := [1]) (by kernel_rfl) (by simp) ?_
   refine AllReadyH.cons (o := ⟨some 64, .call { callee := .value (.func 65), args := #[.tmp 63], argTypes := #[29] }, 27, "parse.go:93", #[⟨0, .data⟩], none⟩) rfl (fun K hK => ?_) AllReadyH.nil
   go_simp
   (go_at_call 65; refine Calls.mono (cP _) ?_; rintro e y1 ⟨rfl, E1⟩; have X1 : Ext W2 y1 := Ext.trans (by with_reducible repeat (first | assumption | exact Ext.refl _ | apply Ext.alloc | apply Ext.drew | apply Ext.drewN)) E1)
   try go_wp2_with fail
   refine hK.out _ _ ?_ (fun hHeld1 => ?_)
   · (try dsimp only); (refine mkS.out _ ?_; ((with_reducible (repeat (first | assumption | exact Ext.refl _ | apply Ext.alloc | apply Ext.drew | apply Ext.drewN))); done))
   clear hK K hHeld0
   try simp only [Act.put, List.setIfInBounds_toArray, List.set_cons_zero, List.set_cons_succ]
   refine wpAnyH_ready (rs := [3]) (by kernel_rfl) (by simp) ?_
   refine AllReadyH.cons (o := ⟨some 66, .call { callee := .value (.func 65), args := #[.tmp 65], argTypes := #[29] }, 27, "parse.go:93", #[⟨2, .data⟩, ⟨1, .chain⟩], none⟩) rfl (fun K hK => ?_) AllReadyH.nil
   go_simp
   (go_at_call 65; refine Calls.mono (cQ _) ?_; rintro e y2 ⟨rfl, E2⟩; have X2 : Ext W2 y2 := Ext.trans (by with_reducible repeat (first | assumption | exact Ext.refl _ | apply Ext.alloc | apply Ext.drew | apply Ext.drewN)) E2)
   try go_wp2_with fail
   refine hK.out _ _ ?_ (fun hHeld2 => ?_)
   · (try dsimp only); (refine mkS.out _ ?_; ((with_reducible (repeat (first | assumption | exact Ext.refl _ | apply Ext.alloc | apply Ext.drew | apply Ext.drewN))); done))
   clear hK K hHeld1
   try simp only [Act.put, List.setIfInBounds_toArray, List.set_cons_zero, List.set_cons_succ]
   refine wpAnyH_ready (rs := [4]) (by kernel_rfl) (by simp) ?_
   refine AllReadyH.cons (o := ⟨some 67, .call { callee := .value (.func 64), args := #[.tmp 64, .tmp 66, .func 46], argTypes := #[27, 27, 89] }, 4, "parse.go:93", #[⟨1, .data⟩, ⟨3, .data⟩, ⟨3, .chain⟩], none⟩) rfl (fun K hK => ?_) AllReadyH.nil
   go_simp
   (go_at_call 64; refine Calls.mono (HEQ.out _ (HF.out.2.2.trans (by with_reducible repeat (first | assumption | exact Ext.refl _ | apply Ext.alloc | apply Ext.drew | apply Ext.drewN)))) ?_; rintro e y3 ⟨rfl, E3⟩; have X3 : Ext W2 y3 := Ext.trans (by with_reducible repeat (first | assumption | exact Ext.refl _ | apply Ext.alloc | apply Ext.drew | apply Ext.drewN)) E3)
   try go_wp2_with fail
   refine hK.out _ _ ?_ (fun hHeld3 => ?_)
   · (try dsimp only); (refine mkS.out _ ?_; ((with_reducible (repeat (first | assumption | exact Ext.refl _ | apply Ext.alloc | apply Ext.drew | apply Ext.drewN))); done))
   clear hK K hHeld2
   try simp only [Act.put, List.setIfInBounds_toArray, List.set_cons_zero, List.set_cons_succ]
   refine wpAnyH_take (i := 5) (oi := ⟨some 4, .assign (.tmp 67), 4, "parse.go:93", #[⟨4, .data⟩, ⟨4, .chain⟩, ⟨0, .phase⟩, ⟨1, .phase⟩, ⟨2, .phase⟩, ⟨3, .phase⟩, ⟨4, .phase⟩], none⟩) (v := ?_) rfl (by kernel_rfl) (by kernel_rfl) (by kernel_rfl) (fun _ _ _ h => h) (Or.inl ⟨by rfl, ?_⟩) (by assumption) ?_
   rotate_left
   · intro w hSw; (try dsimp only at hSw); first | (go_simp; done) | (go_simp; with_reducible rfl)
   try simp only [Act.put, List.setIfInBounds_toArray, List.set_cons_zero, List.set_cons_succ]
   refine wpAnyH_done (by kernel_rfl) ?_ _
   go_wp2_with fail
   go_ret
   exact ⟨ret_bool (by rw [HX.out]), HF.out.2.2.trans (by assumption)⟩
 have n7 := hk
 clear hk
 by_cases hk : a.k = 8
 · have e0 : (a.k == 0) = false := by rw [hk]; rfl
   have e2 : (a.k == 2) = false := by rw [hk]; rfl
   have e1 : (a.k == 1) = false := by rw [hk]; rfl
   have e3 : (a.k == 3) = false := by rw [hk]; rfl
   have e4 : (a.k == 4) = false := by rw [hk]; rfl
   have e5 : (a.k == 5) = false := by rw [hk]; rfl
   have e7 : (a.k == 7) = false := by rw [hk]; rfl
   have e8 : (a.k == 8) = true := by rw [hk]; rfl
   have cP := fun W => xparts_any a pp ln cl W
   have cQ := fun W => xparts_any b qq lm cm W
   rw [ptV_yes (show a.k = 6 ∨ a.k = 7 ∨ a.k = 8 by omega)] at cP
   rw [ptV_yes (show b.k = 6 ∨ b.k = 7 ∨ b.k = 8 by omega)] at cQ
   have HEQ : Hid (∀ V, Ext W V → Calls Try.prog 64 #[.slice pp ln cl, .slice qq lm cm, .func (.func 46) #[] #[]] V fun e w' => e = .returned (.bool (allZ (sameT n) a.l b.l)) ∧ Ext V w') := fun V e => equal_any P n a.l b.l pp qq ln cl lm cm V hl hx (hI.ext e) (hJ.ext e)
   by_cases hns : ¬ a.s = b.s
   · have hs := hns
     clear hns
     have es : ((bs a.s).toList == (bs b.s).toList) = false := by rw [bs_tl9, bs_tl9]; simpa using hs
     have HX : Hid (sameT (n + 1) a b = false) := by show _ = _; unfold sameT; rw [if_neg (by rw [← hkb]; simp)]; simp [hk, hs]
     generalize bs a.s = qa at *
     generalize bs b.s = qb at *
     clear hk hkb hI hJ hl hx hs eR eQ cP cQ
     go_enter Try.func46, Try.ntmps46
     go_wp2_with fail
     go_ret
     exact ⟨ret_bool (by rw [HX.out]), ((Ext.refl _).alloc _).alloc _⟩
   have hs : a.s = b.s := Decidable.not_not.1 hns
   clear hns
   have es : ((bs a.s).toList == (bs b.s).toList) = true := by rw [bs_tl9, bs_tl9]; simpa using hs
   have HX : Hid (sameT (n + 1) a b = allZ (sameT n) a.l b.l) := by show _ = _; unfold sameT; rw [if_neg (by rw [← hkb]; simp)]; simp [hk, hs]
   clear hk hkb hI hJ hl hx hs eR eQ
   go_enter Try.func46, Try.ntmps46
   go_wp2_with fail
   have HF : Hid (BlkX ((W.alloc (.cells #[.int .i64 a.k, .int .i64 a.n, .string (bs a.s), .int .i64 a.e, .int .i64 a.r.1, .int .i64 a.r.2.1, .bool a.r.2.2.1, .bool a.r.2.2.2, .int .i64 a.q.1, .int .i64 a.q.2.1, .bool a.q.2.2.1, .bool a.q.2.2.2, .slice pp ln cl] 29)).alloc (.cells #[.int .i64 b.k, .int .i64 b.n, .string (bs b.s), .int .i64 b.e, .int .i64 b.r.1, .int .i64 b.r.2.1, .bool b.r.2.2.1, .bool b.r.2.2.2, .int .i64 b.q.1, .int .i64 b.q.2.1, .bool b.q.2.2.1, .bool b.q.2.2.2, .slice qq lm cm] 29)) W.heap.size a (.slice pp ln cl) ∧ BlkX ((W.alloc (.cells #[.int .i64 a.k, .int .i64 a.n, .string (bs a.s), .int .i64 a.e, .int .i64 a.r.1, .int .i64 a.r.2.1, .bool a.r.2.2.1, .bool a.r.2.2.2, .int .i64 a.q.1, .int .i64 a.q.2.1, .bool a.q.2.2.1, .bool a.q.2.2.2, .slice pp ln cl] 29)).alloc (.cells #[.int .i64 b.k, .int .i64 b.n, .string (bs b.s), .int .i64 b.e, .int .i64 b.r.1, .int .i64 b.r.2.1, .bool b.r.2.2.1, .bool b.r.2.2.2, .int .i64 b.q.1, .int .i64 b.q.2.1, .bool b.q.2.2.1, .bool b.q.2.2.2, .slice qq lm cm] 29)) (W.heap.size + 1) b (.slice qq lm cm) ∧ Ext W ((W.alloc (.cells #[.int .i64 a.k, .int .i64 a.n, .string (bs a.s), .int .i64 a.e, .int .i64 a.r.1, .int .i64 a.r.2.1, .bool a.r.2.2.1, .bool a.r.2.2.2, .int .i64 a.q.1, .int .i64 a.q.2.1, .bool a.q.2.2.1, .bool a.q.2.2.2, .slice pp ln cl] 29)).alloc (.cells #[.int .i64 b.k, .int .i64 b.n, .string (bs b.s), .int .i64 b.e, .int .i64 b.r.1, .int .i64 b.r.2.1, .bool b.r.2.2.1, .bool b.r.2.2.2, .int .i64 b.q.1, .int .i64 b.q.2.1, .bool b.q.2.2.1, .bool b.q.2.2.2, .slice qq lm cm] 29))) := ⟨blk13_top rfl ((Ext.refl _).alloc _), blk13_top (by simp) (Ext.refl _), ((Ext.refl _).alloc _).alloc _⟩
   generalize ((W.alloc (.cells #[.int .i64 a.k, .int .i64 a.n, .string (bs a.s), .int .i64 a.e, .int .i64 a.r.1, .int .i64 a.r.2.1, .bool a.r.2.2.1, .bool a.r.2.2.2, .int .i64 a.q.1, .int .i64 a.q.2.1, .bool a.q.2.2.1, .bool a.q.2.2.2, .slice pp ln cl] 29)).alloc (.cells #[.int .i64 b.k, .int .i64 b.n, .string (bs b.s), .int .i64 b.e, .int .i64 b.r.1, .int .i64 b.r.2.1, .bool b.r.2.2.1, .bool b.r.2.2.2, .int .i64 b.q.1, .int .i64 b.q.2.1, .bool b.q.2.2.1, .bool b.q.2.2.2, .slice qq lm cm] 29)) = W2 at *
   have mkS : Hid (∀ V, Ext W2 V → V.cell? ⟨W.heap.size, 0, none⟩ = some (.int .i64 a.k) ∧ V.cell? ⟨W.heap.size, 1, none⟩ = some (.int .i64 a.n) ∧ V.cell? ⟨W.heap.size, 2, none⟩ = some (.string (bs a.s)) ∧ V.cell? ⟨W.heap.size, 3, none⟩ = some (.int .i64 a.e) ∧ V.cell? ⟨W.heap.size, 4, none⟩ = some (.int .i64 a.r.1) ∧ V.cell? ⟨W.heap.size, 5, none⟩ = some (.int .i64 a.r.2.1) ∧ V.cell? ⟨W.heap.size, 6, none⟩ = some (.bool a.r.2.2.1) ∧ V.cell? ⟨W.heap.size, 7, none⟩ = some (.bool a.r.2.2.2) ∧ V.cell? ⟨W.heap.size, 8, none⟩ = some (.int .i64 a.q.1) ∧ V.cell? ⟨W.heap.size, 9, none⟩ = some (.int .i64 a.q.2.1) ∧ V.cell? ⟨W.heap.size, 10, none⟩ = some (.bool a.q.2.2.1) ∧ V.cell? ⟨W.heap.size, 11, none⟩ = some (.bool a.q.2.2.2) ∧ V.cell? ⟨W.heap.size, 12, none⟩ = some (.slice pp ln cl) ∧ V.cell? ⟨W.heap.size + 1, 0, none⟩ = some (.int .i64 b.k) ∧ V.cell? ⟨W.heap.size + 1, 1, none⟩ = some (.int .i64 b.n) ∧ V.cell? ⟨W.heap.size + 1, 2, none⟩ = some (.string (bs b.s)) ∧ V.cell? ⟨W.heap.size + 1, 3, none⟩ = some (.int .i64 b.e) ∧ V.cell? ⟨W.heap.size + 1, 4, none⟩ = some (.int .i64 b.r.1) ∧ V.cell? ⟨W.heap.size + 1, 5, none⟩ = some (.int .i64 b.r.2.1) ∧ V.cell? ⟨W.heap.size + 1, 6, none⟩ = some (.bool b.r.2.2.1) ∧ V.cell? ⟨W.heap.size + 1, 7, none⟩ = some (.bool b.r.2.2.2) ∧ V.cell? ⟨W.heap.size + 1, 8, none⟩ = some (.int .i64 b.q.1) ∧ V.cell? ⟨W.heap.size + 1, 9, none⟩ = some (.int .i64 b.q.2.1) ∧ V.cell? ⟨W.heap.size + 1, 10, none⟩ = some (.bool b.q.2.2.1) ∧ V.cell? ⟨W.heap.size + 1, 11, none⟩ = some (.bool b.q.2.2.2) ∧ V.cell? ⟨W.heap.size + 1, 12, none⟩ = some (.slice qq lm cm)) := fun V e => by
     obtain ⟨qz, ⟨k0, k1, k2, k3, k4, k5, k6, k7, k8, k9, k10, k11, k12⟩, gz⟩ := HF.out.1.ext e
     obtain ⟨qy, ⟨m0, m1, m2, m3, m4, m5, m6, m7, m8, m9, m10, m11, m12⟩, gy⟩ := HF.out.2.1.ext e
     exact ⟨k0, k1, k2, k3, k4, k5, k6, k7, k8, k9, k10, k11, k12, m0, m1, m2, m3, m4, m5, m6, m7, m8, m9, m10, m11, m12⟩
   refine wp_region_held_drew (S := (fun V => V.cell? ⟨W.heap.size, 0, none⟩ = some (.int .i64 a.k) ∧ V.cell? ⟨W.heap.size, 1, none⟩ = some (.int .i64 a.n) ∧ V.cell? ⟨W.heap.size, 2, none⟩ = some (.string (bs a.s)) ∧ V.cell? ⟨W.heap.size, 3, none⟩ = some (.int .i64 a.e) ∧ V.cell? ⟨W.heap.size, 4, none⟩ = some (.int .i64 a.r.1) ∧ V.cell? ⟨W.heap.size, 5, none⟩ = some (.int .i64 a.r.2.1) ∧ V.cell? ⟨W.heap.size, 6, none⟩ = some (.bool a.r.2.2.1) ∧ V.cell? ⟨W.heap.size, 7, none⟩ = some (.bool a.r.2.2.2) ∧ V.cell? ⟨W.heap.size, 8, none⟩ = some (.int .i64 a.q.1) ∧ V.cell? ⟨W.heap.size, 9, none⟩ = some (.int .i64 a.q.2.1) ∧ V.cell? ⟨W.heap.size, 10, none⟩ = some (.bool a.q.2.2.1) ∧ V.cell? ⟨W.heap.size, 11, none⟩ = some (.bool a.q.2.2.2) ∧ V.cell? ⟨W.heap.size, 12, none⟩ = some (.slice pp ln cl) ∧ V.cell? ⟨W.heap.size + 1, 0, none⟩ = some (.int .i64 b.k) ∧ V.cell? ⟨W.heap.size + 1, 1, none⟩ = some (.int .i64 b.n) ∧ V.cell? ⟨W.heap.size + 1, 2, none⟩ = some (.string (bs b.s)) ∧ V.cell? ⟨W.heap.size + 1, 3, none⟩ = some (.int .i64 b.e) ∧ V.cell? ⟨W.heap.size + 1, 4, none⟩ = some (.int .i64 b.r.1) ∧ V.cell? ⟨W.heap.size + 1, 5, none⟩ = some (.int .i64 b.r.2.1) ∧ V.cell? ⟨W.heap.size + 1, 6, none⟩ = some (.bool b.r.2.2.1) ∧ V.cell? ⟨W.heap.size + 1, 7, none⟩ = some (.bool b.r.2.2.2) ∧ V.cell? ⟨W.heap.size + 1, 8, none⟩ = some (.int .i64 b.q.1) ∧ V.cell? ⟨W.heap.size + 1, 9, none⟩ = some (.int .i64 b.q.2.1) ∧ V.cell? ⟨W.heap.size + 1, 10, none⟩ = some (.bool b.q.2.2.1) ∧ V.cell? ⟨W.heap.size + 1, 11, none⟩ = some (.bool b.q.2.2.2) ∧ V.cell? ⟨W.heap.size + 1, 12, none⟩ = some (.slice qq lm cm))) (by kernel_rfl) ?_ (fun hHeld0 => ?_)
   · (refine mkS.out _ ?_; ((with_reducible (repeat (first | assumption | exact Ext.refl _ | apply Ext.alloc | apply Ext.drew | apply Ext.drewN))); done))
   refine wpAnyH_take (i := 0) (oi := ⟨some 63, .load 29 (.tmp 2), 29, "parse.go:93", #[], none⟩) (v := ?_) rfl (by kernel_rfl) (by kernel_rfl) (by kernel_rfl) (fun _ _ _ h => h) (Or.inl ⟨by rfl, ?_⟩) (by assumption) ?_
   rotate_left
   · intro w hSw; (try dsimp only at hSw); first | (go_simp; done) | (go_simp; with_reducible rfl)
   try simp only [Act.put, List.setIfInBounds_toArray, List.set_cons_zero, List.set_cons_succ]
   refine wpAnyH_take (i := 2) (oi := ⟨some 65, .load 29 (.tmp 3), 29, "parse.go:93", #[], none⟩) (v := ?_) rfl (by kernel_rfl) (by kernel_rfl) (by kernel_rfl) (fun _ _ _ h => h) (Or.inl ⟨by rfl, ?_⟩) (by assumption) ?_
   rotate_left
   · intro w hSw; (try dsimp only at hSw); first | (go_simp; done) | (go_simp; with_reducible rfl)
   try simp only [Act.put, List.setIfInBounds_toArray, List.set_cons_zero, List.set_cons_succ]
   refine wpAnyH_ready (rs := [1]) (by kernel_rfl) (by simp) ?_
   refine AllReadyH.cons (o := ⟨some 64, .call { callee := .value (.func 65), args := #[.tmp 63], argTypes := #[29] }, 27, "parse.go:93", #[⟨0, .data⟩], none⟩) rfl (fun K hK => ?_) AllReadyH.nil
   go_simp
   (go_at_call 65; refine Calls.mono (cP _) ?_; rintro e y1 ⟨rfl, E1⟩; have X1 : Ext W2 y1 := Ext.trans (by with_reducible repeat (first | assumption | exact Ext.refl _ | apply Ext.alloc | apply Ext.drew | apply Ext.drewN)) E1)
   try go_wp2_with fail
   refine hK.out _ _ ?_ (fun hHeld1 => ?_)
   · (try dsimp only); (refine mkS.out _ ?_; ((with_reducible (repeat (first | assumption | exact Ext.refl _ | apply Ext.alloc | apply Ext.drew | apply Ext.drewN))); done))
   clear hK K hHeld0
   try simp only [Act.put, List.setIfInBounds_toArray, List.set_cons_zero, List.set_cons_succ]
   refine wpAnyH_ready (rs := [3]) (by kernel_rfl) (by simp) ?_
   refine AllReadyH.cons (o := ⟨some 66, .call { callee := .value (.func 65), args := #[.tmp 65], argTypes := #[29] }, 27, "parse.go:93", #[⟨2, .data⟩, ⟨1, .chain⟩], none⟩) rfl (fun K hK => ?_) AllReadyH.nil
   go_simp
   (go_at_call 65; refine Calls.mono (cQ _) ?_; rintro e y2 ⟨rfl, E2⟩; have X2 : Ext W2 y2 := Ext.trans (by with_reducible repeat (first | assumption | exact Ext.refl _ | apply Ext.alloc | apply Ext.drew | apply Ext.drewN)) E2)
   try go_wp2_with fail
   refine hK.out _ _ ?_ (fun hHeld2 => ?_)
   · (try dsimp only); (refine mkS.out _ ?_; ((with_reducible (repeat (first | assumption | exact Ext.refl _ | apply Ext.alloc | apply Ext.drew | apply Ext.drewN))); done))
   clear hK K hHeld1
   try simp only [Act.put, List.setIfInBounds_toArray, List.set_cons_zero, List.set_cons_succ]
   refine wpAnyH_ready (rs := [4]) (by kernel_rfl) (by simp) ?_
   refine AllReadyH.cons (o := ⟨some 67, .call { callee := .value (.func 64), args := #[.tmp 64, .tmp 66, .func 46], argTypes := #[27, 27, 89] }, 4, "parse.go:93", #[⟨1, .data⟩, ⟨3, .data⟩, ⟨3, .chain⟩], none⟩) rfl (fun K hK => ?_) AllReadyH.nil
   go_simp
   (go_at_call 64; refine Calls.mono (HEQ.out _ (HF.out.2.2.trans (by with_reducible repeat (first | assumption | exact Ext.refl _ | apply Ext.alloc | apply Ext.drew | apply Ext.drewN)))) ?_; rintro e y3 ⟨rfl, E3⟩; have X3 : Ext W2 y3 := Ext.trans (by with_reducible repeat (first | assumption | exact Ext.refl _ | apply Ext.alloc | apply Ext.drew | apply Ext.drewN)) E3)
   try go_wp2_with fail
   refine hK.out _ _ ?_ (fun hHeld3 => ?_)
   · (try dsimp only); (refine mkS.out _ ?_; ((with_reducible (repeat (first | assumption | exact Ext.refl _ | apply Ext.alloc | apply Ext.drew | apply Ext.drewN))); done))
   clear hK K hHeld2
   try simp only [Act.put, List.setIfInBounds_toArray, List.set_cons_zero, List.set_cons_succ]
   refine wpAnyH_take (i := 5) (oi := ⟨some 4, .assign (.tmp 67), 4, "parse.go:93", #[⟨4, .data⟩, ⟨4, .chain⟩, ⟨0, .phase⟩, ⟨1, .phase⟩, ⟨2, .phase⟩, ⟨3, .phase⟩, ⟨4, .phase⟩], none⟩) (v := ?_) rfl (by kernel_rfl) (by kernel_rfl) (by kernel_rfl) (fun _ _ _ h => h) (Or.inl ⟨by rfl, ?_⟩) (by assumption) ?_
   rotate_left
   · intro w hSw; (try dsimp only at hSw); first | (go_simp; done) | (go_simp; with_reducible rfl)
   try simp only [Act.put, List.setIfInBounds_toArray, List.set_cons_zero, List.set_cons_succ]
   refine wpAnyH_done (by kernel_rfl) ?_ _
   go_wp2_with fail
   go_ret
   exact ⟨ret_bool (by rw [HX.out]), HF.out.2.2.trans (by assumption)⟩
 have n8 := hk
 clear hk
 have h678 : ¬ (a.k = 6 ∨ a.k = 7 ∨ a.k = 8) := by omega
 have HX : Hid (sameT (n + 1) a b = true) := by show _ = _; unfold sameT; rw [if_neg (by rw [← hkb]; simp)]; simp [n0, n1, n2, n3, n4, n5, h678]
 have e0 : (a.k == 0) = false := by simpa using n0
 have e2 : (a.k == 2) = false := by simpa using n2
 have e1 : (a.k == 1) = false := by simpa using n1
 have e3 : (a.k == 3) = false := by simpa using n3
 have e4 : (a.k == 4) = false := by simpa using n4
 have e5 : (a.k == 5) = false := by simpa using n5
 have e7 : (a.k == 7) = false := by simpa using n7
 have e8 : (a.k == 8) = false := by simpa using n8
 have cP := fun W => xparts_any a pp ln cl W
 have cQ := fun W => xparts_any b qq lm cm W
 rw [ptV_no h678] at cP
 rw [ptV_no (by rw [← hkb]; exact h678)] at cQ
 have HEQ : Hid (∀ V, Ext W V → Calls Try.prog 64 #[.slice none 0 0, .slice none 0 0, .func (.func 46) #[] #[]] V fun e w' => e = .returned (.bool true) ∧ Ext V w') := fun V e => equal_any P n [] [] none none 0 0 0 0 V (by decide) (fun x hx => by cases hx) .nil .nil
 clear h678 hkb n0 n1 n2 n3 n4 n5 n6 n7 n8 eR eQ hI hJ hl hx
 go_enter Try.func46, Try.ntmps46
 go_wp2_with fail
 have HF : Hid (BlkX ((W.alloc (.cells #[.int .i64 a.k, .int .i64 a.n, .string (bs a.s), .int .i64 a.e, .int .i64 a.r.1, .int .i64 a.r.2.1, .bool a.r.2.2.1, .bool a.r.2.2.2, .int .i64 a.q.1, .int .i64 a.q.2.1, .bool a.q.2.2.1, .bool a.q.2.2.2, .slice pp ln cl] 29)).alloc (.cells #[.int .i64 b.k, .int .i64 b.n, .string (bs b.s), .int .i64 b.e, .int .i64 b.r.1, .int .i64 b.r.2.1, .bool b.r.2.2.1, .bool b.r.2.2.2, .int .i64 b.q.1, .int .i64 b.q.2.1, .bool b.q.2.2.1, .bool b.q.2.2.2, .slice qq lm cm] 29)) W.heap.size a (.slice pp ln cl) ∧ BlkX ((W.alloc (.cells #[.int .i64 a.k, .int .i64 a.n, .string (bs a.s), .int .i64 a.e, .int .i64 a.r.1, .int .i64 a.r.2.1, .bool a.r.2.2.1, .bool a.r.2.2.2, .int .i64 a.q.1, .int .i64 a.q.2.1, .bool a.q.2.2.1, .bool a.q.2.2.2, .slice pp ln cl] 29)).alloc (.cells #[.int .i64 b.k, .int .i64 b.n, .string (bs b.s), .int .i64 b.e, .int .i64 b.r.1, .int .i64 b.r.2.1, .bool b.r.2.2.1, .bool b.r.2.2.2, .int .i64 b.q.1, .int .i64 b.q.2.1, .bool b.q.2.2.1, .bool b.q.2.2.2, .slice qq lm cm] 29)) (W.heap.size + 1) b (.slice qq lm cm) ∧ Ext W ((W.alloc (.cells #[.int .i64 a.k, .int .i64 a.n, .string (bs a.s), .int .i64 a.e, .int .i64 a.r.1, .int .i64 a.r.2.1, .bool a.r.2.2.1, .bool a.r.2.2.2, .int .i64 a.q.1, .int .i64 a.q.2.1, .bool a.q.2.2.1, .bool a.q.2.2.2, .slice pp ln cl] 29)).alloc (.cells #[.int .i64 b.k, .int .i64 b.n, .string (bs b.s), .int .i64 b.e, .int .i64 b.r.1, .int .i64 b.r.2.1, .bool b.r.2.2.1, .bool b.r.2.2.2, .int .i64 b.q.1, .int .i64 b.q.2.1, .bool b.q.2.2.1, .bool b.q.2.2.2, .slice qq lm cm] 29))) := ⟨blk13_top rfl ((Ext.refl _).alloc _), blk13_top (by simp) (Ext.refl _), ((Ext.refl _).alloc _).alloc _⟩
 generalize ((W.alloc (.cells #[.int .i64 a.k, .int .i64 a.n, .string (bs a.s), .int .i64 a.e, .int .i64 a.r.1, .int .i64 a.r.2.1, .bool a.r.2.2.1, .bool a.r.2.2.2, .int .i64 a.q.1, .int .i64 a.q.2.1, .bool a.q.2.2.1, .bool a.q.2.2.2, .slice pp ln cl] 29)).alloc (.cells #[.int .i64 b.k, .int .i64 b.n, .string (bs b.s), .int .i64 b.e, .int .i64 b.r.1, .int .i64 b.r.2.1, .bool b.r.2.2.1, .bool b.r.2.2.2, .int .i64 b.q.1, .int .i64 b.q.2.1, .bool b.q.2.2.1, .bool b.q.2.2.2, .slice qq lm cm] 29)) = W2 at *
 have mkS : Hid (∀ V, Ext W2 V → V.cell? ⟨W.heap.size, 0, none⟩ = some (.int .i64 a.k) ∧ V.cell? ⟨W.heap.size, 1, none⟩ = some (.int .i64 a.n) ∧ V.cell? ⟨W.heap.size, 2, none⟩ = some (.string (bs a.s)) ∧ V.cell? ⟨W.heap.size, 3, none⟩ = some (.int .i64 a.e) ∧ V.cell? ⟨W.heap.size, 4, none⟩ = some (.int .i64 a.r.1) ∧ V.cell? ⟨W.heap.size, 5, none⟩ = some (.int .i64 a.r.2.1) ∧ V.cell? ⟨W.heap.size, 6, none⟩ = some (.bool a.r.2.2.1) ∧ V.cell? ⟨W.heap.size, 7, none⟩ = some (.bool a.r.2.2.2) ∧ V.cell? ⟨W.heap.size, 8, none⟩ = some (.int .i64 a.q.1) ∧ V.cell? ⟨W.heap.size, 9, none⟩ = some (.int .i64 a.q.2.1) ∧ V.cell? ⟨W.heap.size, 10, none⟩ = some (.bool a.q.2.2.1) ∧ V.cell? ⟨W.heap.size, 11, none⟩ = some (.bool a.q.2.2.2) ∧ V.cell? ⟨W.heap.size, 12, none⟩ = some (.slice pp ln cl) ∧ V.cell? ⟨W.heap.size + 1, 0, none⟩ = some (.int .i64 b.k) ∧ V.cell? ⟨W.heap.size + 1, 1, none⟩ = some (.int .i64 b.n) ∧ V.cell? ⟨W.heap.size + 1, 2, none⟩ = some (.string (bs b.s)) ∧ V.cell? ⟨W.heap.size + 1, 3, none⟩ = some (.int .i64 b.e) ∧ V.cell? ⟨W.heap.size + 1, 4, none⟩ = some (.int .i64 b.r.1) ∧ V.cell? ⟨W.heap.size + 1, 5, none⟩ = some (.int .i64 b.r.2.1) ∧ V.cell? ⟨W.heap.size + 1, 6, none⟩ = some (.bool b.r.2.2.1) ∧ V.cell? ⟨W.heap.size + 1, 7, none⟩ = some (.bool b.r.2.2.2) ∧ V.cell? ⟨W.heap.size + 1, 8, none⟩ = some (.int .i64 b.q.1) ∧ V.cell? ⟨W.heap.size + 1, 9, none⟩ = some (.int .i64 b.q.2.1) ∧ V.cell? ⟨W.heap.size + 1, 10, none⟩ = some (.bool b.q.2.2.1) ∧ V.cell? ⟨W.heap.size + 1, 11, none⟩ = some (.bool b.q.2.2.2) ∧ V.cell? ⟨W.heap.size + 1, 12, none⟩ = some (.slice qq lm cm)) := fun V e => by
   obtain ⟨qz, ⟨k0, k1, k2, k3, k4, k5, k6, k7, k8, k9, k10, k11, k12⟩, gz⟩ := HF.out.1.ext e
   obtain ⟨qy, ⟨m0, m1, m2, m3, m4, m5, m6, m7, m8, m9, m10, m11, m12⟩, gy⟩ := HF.out.2.1.ext e
   exact ⟨k0, k1, k2, k3, k4, k5, k6, k7, k8, k9, k10, k11, k12, m0, m1, m2, m3, m4, m5, m6, m7, m8, m9, m10, m11, m12⟩
 refine wp_region_held_drew (S := (fun V => V.cell? ⟨W.heap.size, 0, none⟩ = some (.int .i64 a.k) ∧ V.cell? ⟨W.heap.size, 1, none⟩ = some (.int .i64 a.n) ∧ V.cell? ⟨W.heap.size, 2, none⟩ = some (.string (bs a.s)) ∧ V.cell? ⟨W.heap.size, 3, none⟩ = some (.int .i64 a.e) ∧ V.cell? ⟨W.heap.size, 4, none⟩ = some (.int .i64 a.r.1) ∧ V.cell? ⟨W.heap.size, 5, none⟩ = some (.int .i64 a.r.2.1) ∧ V.cell? ⟨W.heap.size, 6, none⟩ = some (.bool a.r.2.2.1) ∧ V.cell? ⟨W.heap.size, 7, none⟩ = some (.bool a.r.2.2.2) ∧ V.cell? ⟨W.heap.size, 8, none⟩ = some (.int .i64 a.q.1) ∧ V.cell? ⟨W.heap.size, 9, none⟩ = some (.int .i64 a.q.2.1) ∧ V.cell? ⟨W.heap.size, 10, none⟩ = some (.bool a.q.2.2.1) ∧ V.cell? ⟨W.heap.size, 11, none⟩ = some (.bool a.q.2.2.2) ∧ V.cell? ⟨W.heap.size, 12, none⟩ = some (.slice pp ln cl) ∧ V.cell? ⟨W.heap.size + 1, 0, none⟩ = some (.int .i64 b.k) ∧ V.cell? ⟨W.heap.size + 1, 1, none⟩ = some (.int .i64 b.n) ∧ V.cell? ⟨W.heap.size + 1, 2, none⟩ = some (.string (bs b.s)) ∧ V.cell? ⟨W.heap.size + 1, 3, none⟩ = some (.int .i64 b.e) ∧ V.cell? ⟨W.heap.size + 1, 4, none⟩ = some (.int .i64 b.r.1) ∧ V.cell? ⟨W.heap.size + 1, 5, none⟩ = some (.int .i64 b.r.2.1) ∧ V.cell? ⟨W.heap.size + 1, 6, none⟩ = some (.bool b.r.2.2.1) ∧ V.cell? ⟨W.heap.size + 1, 7, none⟩ = some (.bool b.r.2.2.2) ∧ V.cell? ⟨W.heap.size + 1, 8, none⟩ = some (.int .i64 b.q.1) ∧ V.cell? ⟨W.heap.size + 1, 9, none⟩ = some (.int .i64 b.q.2.1) ∧ V.cell? ⟨W.heap.size + 1, 10, none⟩ = some (.bool b.q.2.2.1) ∧ V.cell? ⟨W.heap.size + 1, 11, none⟩ = some (.bool b.q.2.2.2) ∧ V.cell? ⟨W.heap.size + 1, 12, none⟩ = some (.slice qq lm cm))) (by kernel_rfl) ?_ (fun hHeld0 => ?_)
 · (refine mkS.out _ ?_; ((with_reducible (repeat (first | assumption | exact Ext.refl _ | apply Ext.alloc | apply Ext.drew | apply Ext.drewN))); done))
 refine wpAnyH_take (i := 0) (oi := ⟨some 63, .load 29 (.tmp 2), 29, "parse.go:93", #[], none⟩) (v := ?_) rfl (by kernel_rfl) (by kernel_rfl) (by kernel_rfl) (fun _ _ _ h => h) (Or.inl ⟨by rfl, ?_⟩) (by assumption) ?_
 rotate_left
 · intro w hSw; (try dsimp only at hSw); first | (go_simp; done) | (go_simp; with_reducible rfl)
 try simp only [Act.put, List.setIfInBounds_toArray, List.set_cons_zero, List.set_cons_succ]
 refine wpAnyH_take (i := 2) (oi := ⟨some 65, .load 29 (.tmp 3), 29, "parse.go:93", #[], none⟩) (v := ?_) rfl (by kernel_rfl) (by kernel_rfl) (by kernel_rfl) (fun _ _ _ h => h) (Or.inl ⟨by rfl, ?_⟩) (by assumption) ?_
 rotate_left
 · intro w hSw; (try dsimp only at hSw); first | (go_simp; done) | (go_simp; with_reducible rfl)
 try simp only [Act.put, List.setIfInBounds_toArray, List.set_cons_zero, List.set_cons_succ]
 refine wpAnyH_ready (rs := [1]) (by kernel_rfl) (by simp) ?_
 refine AllReadyH.cons (o := ⟨some 64, .call { callee := .value (.func 65), args := #[.tmp 63], argTypes := #[29] }, 27, "parse.go:93", #[⟨0, .data⟩], none⟩) rfl (fun K hK => ?_) AllReadyH.nil
 go_simp
 (go_at_call 65; refine Calls.mono (cP _) ?_; rintro e y1 ⟨rfl, E1⟩; have X1 : Ext W2 y1 := Ext.trans (by with_reducible repeat (first | assumption | exact Ext.refl _ | apply Ext.alloc | apply Ext.drew | apply Ext.drewN)) E1)
 try go_wp2_with fail
 refine hK.out _ _ ?_ (fun hHeld1 => ?_)
 · (try dsimp only); (refine mkS.out _ ?_; ((with_reducible (repeat (first | assumption | exact Ext.refl _ | apply Ext.alloc | apply Ext.drew | apply Ext.drewN))); done))
 clear hK K hHeld0
 try simp only [Act.put, List.setIfInBounds_toArray, List.set_cons_zero, List.set_cons_succ]
 refine wpAnyH_ready (rs := [3]) (by kernel_rfl) (by simp) ?_
 refine AllReadyH.cons (o := ⟨some 66, .call { callee := .value (.func 65), args := #[.tmp 65], argTypes := #[29] }, 27, "parse.go:93", #[⟨2, .data⟩, ⟨1, .chain⟩], none⟩) rfl (fun K hK => ?_) AllReadyH.nil
 go_simp
 (go_at_call 65; refine Calls.mono (cQ _) ?_; rintro e y2 ⟨rfl, E2⟩; have X2 : Ext W2 y2 := Ext.trans (by with_reducible repeat (first | assumption | exact Ext.refl _ | apply Ext.alloc | apply Ext.drew | apply Ext.drewN)) E2)
 try go_wp2_with fail
 refine hK.out _ _ ?_ (fun hHeld2 => ?_)
 · (try dsimp only); (refine mkS.out _ ?_; ((with_reducible (repeat (first | assumption | exact Ext.refl _ | apply Ext.alloc | apply Ext.drew | apply Ext.drewN))); done))
 clear hK K hHeld1
 try simp only [Act.put, List.setIfInBounds_toArray, List.set_cons_zero, List.set_cons_succ]
 refine wpAnyH_ready (rs := [4]) (by kernel_rfl) (by simp) ?_
 refine AllReadyH.cons (o := ⟨some 67, .call { callee := .value (.func 64), args := #[.tmp 64, .tmp 66, .func 46], argTypes := #[27, 27, 89] }, 4, "parse.go:93", #[⟨1, .data⟩, ⟨3, .data⟩, ⟨3, .chain⟩], none⟩) rfl (fun K hK => ?_) AllReadyH.nil
 go_simp
 (go_at_call 64; refine Calls.mono (HEQ.out _ (HF.out.2.2.trans (by with_reducible repeat (first | assumption | exact Ext.refl _ | apply Ext.alloc | apply Ext.drew | apply Ext.drewN)))) ?_; rintro e y3 ⟨rfl, E3⟩; have X3 : Ext W2 y3 := Ext.trans (by with_reducible repeat (first | assumption | exact Ext.refl _ | apply Ext.alloc | apply Ext.drew | apply Ext.drewN)) E3)
 try go_wp2_with fail
 refine hK.out _ _ ?_ (fun hHeld3 => ?_)
 · (try dsimp only); (refine mkS.out _ ?_; ((with_reducible (repeat (first | assumption | exact Ext.refl _ | apply Ext.alloc | apply Ext.drew | apply Ext.drewN))); done))
 clear hK K hHeld2
 try simp only [Act.put, List.setIfInBounds_toArray, List.set_cons_zero, List.set_cons_succ]
 refine wpAnyH_take (i := 5) (oi := ⟨some 4, .assign (.tmp 67), 4, "parse.go:93", #[⟨4, .data⟩, ⟨4, .chain⟩, ⟨0, .phase⟩, ⟨1, .phase⟩, ⟨2, .phase⟩, ⟨3, .phase⟩, ⟨4, .phase⟩], none⟩) (v := ?_) rfl (by kernel_rfl) (by kernel_rfl) (by kernel_rfl) (fun _ _ _ h => h) (Or.inl ⟨by rfl, ?_⟩) (by assumption) ?_
 rotate_left
 · intro w hSw; (try dsimp only at hSw); first | (go_simp; done) | (go_simp; with_reducible rfl)
 try simp only [Act.put, List.setIfInBounds_toArray, List.set_cons_zero, List.set_cons_succ]
 refine wpAnyH_done (by kernel_rfl) ?_ _
 go_wp2_with fail
 go_ret
 exact ⟨ret_bool (by rw [HX.out]), HF.out.2.2.trans (by assumption)⟩
theorem psame_any (P : Nat → Prop) (n : Nat) (a : T) (h : Hr n a) : SmC 46 P n a := by
 induction n generalizing a with
 | zero => cases h
 | succ n ih => exact psame_step P n a h.1 (fun x hx => ih x (h.2 x hx))
open Go.RowKit
set_option maxHeartbeats 6000000
open Go.RowKit
set_option maxHeartbeats 6000000
open Go.RowKit
set_option maxHeartbeats 6000000
open Go.RowKit
set_option maxHeartbeats 6000000
set_option maxRecDepth 100000 in
theorem form_any (n : Nat) (t : T) (hr : Hr n t) (row col : Int) (W : World) (P : Nat → Prop) (pp : Option Addr) (ln cl : Nat) (hL : IsL W P (.slice pp ln cl) t.l) :
   Calls Try.prog 47 #[.agg #[.int .i64 t.k, .int .i64 t.n, .string (bs t.s), .int .i64 t.e, .int .i64 t.r.1, .int .i64 t.r.2.1, .bool t.r.2.2.1, .bool t.r.2.2.2, .int .i64 t.q.1, .int .i64 t.q.2.1, .bool t.q.2.2.1, .bool t.q.2.2.2, .slice pp ln cl], .int .i64 row, .int .i64 col] W (MpQ W (mpT (mvE (wrap64 (-row)) (wrap64 (-col))) n t)) := by
 have hn1 : wrap64 (-row) = IntKind.i64.wrap (-row) := by rw [IntKind.wrap_i64]; unfold wrap64; omega
 have hn2 : wrap64 (-col) = IntKind.i64.wrap (-col) := by rw [IntKind.wrap_i64]; unfold wrap64; omega
 rw [hn1, hn2]
 clear hn1 hn2
 have HI : Hid (IsL W P (.slice pp ln cl) t.l) := hL
 have HR : Hid (Hr n t) := hr
 have cM := fun V => moved_any (IntKind.i64.wrap (-row)) (IntKind.i64.wrap (-col)) V
 clear hL hr
 go_enter Try.func47, Try.ntmps47
 go_wp2_with fail
 have HW1 : Hid (Ext W ((W.alloc (.cells #[.int .i64 t.k, .int .i64 t.n, .string (bs t.s), .int .i64 t.e, .int .i64 t.r.1, .int .i64 t.r.2.1, .bool t.r.2.2.1, .bool t.r.2.2.2, .int .i64 t.q.1, .int .i64 t.q.2.1, .bool t.q.2.2.1, .bool t.q.2.2.2, .slice pp ln cl] 29)).alloc (.cells #[.int .i64 0, .int .i64 0, .string ⟨#[]⟩, .int .i64 0, .int .i64 0, .int .i64 0, .bool false, .bool false, .int .i64 0, .int .i64 0, .bool false, .bool false, .slice none 0 0] 29))) := ((Ext.refl _).alloc _).alloc _
 have HB : Hid (BlkX ((W.alloc (.cells #[.int .i64 t.k, .int .i64 t.n, .string (bs t.s), .int .i64 t.e, .int .i64 t.r.1, .int .i64 t.r.2.1, .bool t.r.2.2.1, .bool t.r.2.2.2, .int .i64 t.q.1, .int .i64 t.q.2.1, .bool t.q.2.2.1, .bool t.q.2.2.2, .slice pp ln cl] 29)).alloc (.cells #[.int .i64 0, .int .i64 0, .string ⟨#[]⟩, .int .i64 0, .int .i64 0, .int .i64 0, .bool false, .bool false, .int .i64 0, .int .i64 0, .bool false, .bool false, .slice none 0 0] 29)) W.heap.size t (.slice pp ln cl) ∧ BlkX ((W.alloc (.cells #[.int .i64 t.k, .int .i64 t.n, .string (bs t.s), .int .i64 t.e, .int .i64 t.r.1, .int .i64 t.r.2.1, .bool t.r.2.2.1, .bool t.r.2.2.2, .int .i64 t.q.1, .int .i64 t.q.2.1, .bool t.q.2.2.1, .bool t.q.2.2.2, .slice pp ln cl] 29)).alloc (.cells #[.int .i64 0, .int .i64 0, .string ⟨#[]⟩, .int .i64 0, .int .i64 0, .int .i64 0, .bool false, .bool false, .int .i64 0, .int .i64 0, .bool false, .bool false, .slice none 0 0] 29)) (W.heap.size + 1) tz (.slice none 0 0)) := ⟨blk13_top rfl ((Ext.refl _).alloc _), BlkX.top (by simp) (Ext.refl _)⟩
 generalize ((W.alloc (.cells #[.int .i64 t.k, .int .i64 t.n, .string (bs t.s), .int .i64 t.e, .int .i64 t.r.1, .int .i64 t.r.2.1, .bool t.r.2.2.1, .bool t.r.2.2.2, .int .i64 t.q.1, .int .i64 t.q.2.1, .bool t.q.2.2.1, .bool t.q.2.2.2, .slice pp ln cl] 29)).alloc (.cells #[.int .i64 0, .int .i64 0, .string ⟨#[]⟩, .int .i64 0, .int .i64 0, .int .i64 0, .bool false, .bool false, .int .i64 0, .int .i64 0, .bool false, .bool false, .slice none 0 0] 29)) = W1 at *
 have mkS : Hid (∀ V, Ext W1 V → V.cell? ⟨W.heap.size, 0, none⟩ = some (.int .i64 t.k) ∧ V.cell? ⟨W.heap.size, 1, none⟩ = some (.int .i64 t.n) ∧ V.cell? ⟨W.heap.size, 2, none⟩ = some (.string (bs t.s)) ∧ V.cell? ⟨W.heap.size, 3, none⟩ = some (.int .i64 t.e) ∧ V.cell? ⟨W.heap.size, 4, none⟩ = some (.int .i64 t.r.1) ∧ V.cell? ⟨W.heap.size, 5, none⟩ = some (.int .i64 t.r.2.1) ∧ V.cell? ⟨W.heap.size, 6, none⟩ = some (.bool t.r.2.2.1) ∧ V.cell? ⟨W.heap.size, 7, none⟩ = some (.bool t.r.2.2.2) ∧ V.cell? ⟨W.heap.size, 8, none⟩ = some (.int .i64 t.q.1) ∧ V.cell? ⟨W.heap.size, 9, none⟩ = some (.int .i64 t.q.2.1) ∧ V.cell? ⟨W.heap.size, 10, none⟩ = some (.bool t.q.2.2.1) ∧ V.cell? ⟨W.heap.size, 11, none⟩ = some (.bool t.q.2.2.2) ∧ V.cell? ⟨W.heap.size, 12, none⟩ = some (.slice pp ln cl)) := fun V e => (HB.out.1.ext e).2.1
 refine bar_begin (B := fun i => i == 7) (S := fun V => V.cell? ⟨W.heap.size, 0, none⟩ = some (.int .i64 t.k) ∧ V.cell? ⟨W.heap.size, 1, none⟩ = some (.int .i64 t.n) ∧ V.cell? ⟨W.heap.size, 2, none⟩ = some (.string (bs t.s)) ∧ V.cell? ⟨W.heap.size, 3, none⟩ = some (.int .i64 t.e) ∧ V.cell? ⟨W.heap.size, 4, none⟩ = some (.int .i64 t.r.1) ∧ V.cell? ⟨W.heap.size, 5, none⟩ = some (.int .i64 t.r.2.1) ∧ V.cell? ⟨W.heap.size, 6, none⟩ = some (.bool t.r.2.2.1) ∧ V.cell? ⟨W.heap.size, 7, none⟩ = some (.bool t.r.2.2.2) ∧ V.cell? ⟨W.heap.size, 8, none⟩ = some (.int .i64 t.q.1) ∧ V.cell? ⟨W.heap.size, 9, none⟩ = some (.int .i64 t.q.2.1) ∧ V.cell? ⟨W.heap.size, 10, none⟩ = some (.bool t.q.2.2.1) ∧ V.cell? ⟨W.heap.size, 11, none⟩ = some (.bool t.q.2.2.2) ∧ V.cell? ⟨W.heap.size, 12, none⟩ = some (.slice pp ln cl)) (by kernel_rfl) ?_
 have hS0 := mkS.out (World.drew W1) (Ext.refl _).drew
 refine bar_take (i := 0) (v := ?v0) rfl (by kernel_rfl) (by kernel_rfl) (by kernel_rfl) (by kernel_rfl) (fun _ _ _ h => h) (Or.inl ⟨by rfl, ?hy0⟩) hS0 ?rest0
 case hy0 => (intro W hSW; (try dsimp only at hSW); go_simp; with_reducible rfl)
 simp only [Act.put, List.setIfInBounds_toArray]
 refine bar_take (i := 1) (v := ?v1) rfl (by kernel_rfl) (by kernel_rfl) (by kernel_rfl) (by kernel_rfl) (fun _ _ _ h => h) (Or.inl ⟨by rfl, ?hy1⟩) hS0 ?rest1
 case hy1 => (intro W hSW; (try dsimp only at hSW); go_simp; with_reducible rfl)
 simp only [Act.put]
 refine bar_take (i := 2) (v := ?v2) rfl (by kernel_rfl) (by kernel_rfl) (by kernel_rfl) (by kernel_rfl) (fun _ _ _ h => h) (Or.inl ⟨by rfl, ?hy2⟩) hS0 ?rest2
 case hy2 => (intro W hSW; (try dsimp only at hSW); go_simp; with_reducible rfl)
 simp only [Act.put]
 refine bar_take (i := 3) (v := ?v3) rfl (by kernel_rfl) (by kernel_rfl) (by kernel_rfl) (by kernel_rfl) (fun _ _ _ h => h) (Or.inl ⟨by rfl, ?hy3⟩) hS0 ?rest3
 case hy3 => (intro W hSW; (try dsimp only at hSW); go_simp; with_reducible rfl)
 simp only [Act.put]
 refine bar_take (i := 4) (v := ?v4) rfl (by kernel_rfl) (by kernel_rfl) (by kernel_rfl) (by kernel_rfl) (fun _ _ _ h => h) (Or.inl ⟨by rfl, ?hy4⟩) hS0 ?rest4
 case hy4 => (intro W hSW; (try dsimp only at hSW); go_simp; with_reducible rfl)
 simp only [Act.put]
 refine bar_one (i := 5) (by kernel_rfl) rfl (fun KK hKK => ?_)
 go_simp
 go_wp2_with (go_at_call 67; refine Calls.mono (cM _) ?_; rintro e w5 ⟨v, rfl, F5, E5⟩)
 have X5 : Ext W1 w5 := Ext.trans (Ext.refl _).drew E5
 have HF5 : Hid (FnR w5 v (mvE (IntKind.i64.wrap (-row)) (IntKind.i64.wrap (-col)))) := F5
 refine hKK.out _ _ (fun _ => mkS.out _ X5) ?_
 clear hKK KK hS0 F5 E5
 refine bar_one (i := 6) (by kernel_rfl) rfl (fun KK hKK => ?_)
 go_simp
 go_wp2_with (go_at_call 66; refine Calls.mono (mapped_any n t HR.out _ v w5 P pp ln cl HF5.out (HI.out.ext (HW1.out.trans X5))) ?_; rintro e w6 ⟨p, l, c, rfl, L6, E6⟩)
 have X6 : Ext W1 w6 := X5.trans E6
 refine hKK.out _ _ (fun _ => mkS.out _ X6) ?_
 clear hKK KK mkS
 have hz5 : W.heap.size + 1 + 1 ≤ w5.heap.size := by have h1 := X5.sz; have h2 := HB.out.2.1; omega
 have H6 : Hid (BlkX w6 (W.heap.size + 1) tz (.slice none 0 0) ∧ Ext W w6 ∧ IsL w6 (W.heap.size + 1 + 1 ≤ ·) (.slice p l c) (mpT (mvE (IntKind.i64.wrap (-row)) (IntKind.i64.wrap (-col))) n t).l) := ⟨HB.out.2.ext X6, HW1.out.trans X6, L6.mono (fun k hk _ => by have : w5.heap.size ≤ k := hk; omega)⟩
 have HB1 := H6.out.1
 obtain ⟨qc, ⟨lc0, lc1, lc2, lc3, lc4, lc5, lc6, lc7, lc8, lc9, lc10, lc11, lc12⟩, gc0, gc1, gc2, gc3, gc4, gc5, gc6, gc7, gc8, gc9, gc10, gc11, gc12⟩ := HB1
 clear X6 E6 X5 L6
 generalize mpT (mvE (IntKind.i64.wrap (-row)) (IntKind.i64.wrap (-col))) n t = y at *
 unfold aggX
 refine bar_one (i := 7) (by kernel_rfl) rfl (fun KK hKK => ?_)
 go_simp
 refine hKK.out _ _ (fun h => absurd h (by decide)) ?_
 clear hKK KK
 refine bar_done (by kernel_rfl) ?_ _
 go_wp2_with fail
 show bodyPost Try.prog _ _ _ _ (putX w6 (W.heap.size + 1) y (.slice p l c))
 exact endR (H6.out.1.put y (.slice p l c)) rfl ⟨p, l, c, rfl, (putX_L H6.out.2.2 (fun k hk => by have hk2 : W.heap.size + 1 + 1 ≤ k := hk; omega)).mono (fun k hk _ => by have hk2 : W.heap.size + 1 + 1 ≤ k := hk; omega), putX_E H6.out.2.1 (by omega) _ _⟩ (fun h0 h1 h2 h3 h4 h5 h6 h7 h8 h9 h10 h11 h12 => by simp [results, Try.results47, go_sem, h0, h1, h2, h3, h4, h5, h6, h7, h8, h9, h10, h11, h12, aggX])
theorem hr_mp (n : Nat) : ∀ t : T, Hr n t → ∀ g : T → T, (∀ t, (g t).l = t.l) → Hr n (mpT g n t) := by
 induction n with
 | zero => intro t h; cases h
 | succ n ih =>
   intro t h g hg
   rw [mpT]
   refine ⟨?_, ?_⟩
   · rw [hg]; show (t.l.map _).length ≤ _; rw [List.length_map]; exact h.1
   · intro x hx
     rw [hg] at hx
     have hx2 : x ∈ t.l.map (if prB t.k then mpT g n else id) := hx
     obtain ⟨y, hy, rfl⟩ := List.mem_map.1 hx2
     cases prB t.k with
     | true => exact ih y (h.2 y hy) g hg
     | false => exact h.2 y hy
set_option maxRecDepth 100000 in
theorem alike_any (n : Nat) (a b : T) (ha : Hr n a) (hb : Hr n b) (r1 c1 r2 c2 : Int) (W : World) (pp qq : Option Addr) (ln cl lm cm : Nat) (hL : IsL W (fun _ => True) (.slice pp ln cl) a.l) (hM : IsL W (fun _ => True) (.slice qq lm cm) b.l) :
   Calls Try.prog 26 #[.agg #[.int .i64 a.k, .int .i64 a.n, .string (bs a.s), .int .i64 a.e, .int .i64 a.r.1, .int .i64 a.r.2.1, .bool a.r.2.2.1, .bool a.r.2.2.2, .int .i64 a.q.1, .int .i64 a.q.2.1, .bool a.q.2.2.1, .bool a.q.2.2.2, .slice pp ln cl], .int .i64 r1, .int .i64 c1, .agg #[.int .i64 b.k, .int .i64 b.n, .string (bs b.s), .int .i64 b.e, .int .i64 b.r.1, .int .i64 b.r.2.1, .bool b.r.2.2.1, .bool b.r.2.2.2, .int .i64 b.q.1, .int .i64 b.q.2.1, .bool b.q.2.2.1, .bool b.q.2.2.2, .slice qq lm cm], .int .i64 r2, .int .i64 c2] W fun e w' => e = .returned (.bool (sameT n (mpT (mvE (wrap64 (-r1)) (wrap64 (-c1))) n a) (mpT (mvE (wrap64 (-r2)) (wrap64 (-c2))) n b))) ∧ Ext W w' := by
 have HI : Hid (IsL W (fun _ => True) (.slice pp ln cl) a.l ∧ IsL W (fun _ => True) (.slice qq lm cm) b.l) := ⟨hL, hM⟩
 have HR : Hid (Hr n a ∧ Hr n b ∧ Hr n (mpT (mvE (wrap64 (-r1)) (wrap64 (-c1))) n a)) := ⟨ha, hb, hr_mp n a ha _ (fun t => mvE_l _ _ t)⟩
 clear hL hM ha hb
 go_enter Try.func26, Try.ntmps26
 go_wp2_with fail
 have HW1 : Hid (Ext W ((W.alloc (.cells #[.int .i64 a.k, .int .i64 a.n, .string (bs a.s), .int .i64 a.e, .int .i64 a.r.1, .int .i64 a.r.2.1, .bool a.r.2.2.1, .bool a.r.2.2.2, .int .i64 a.q.1, .int .i64 a.q.2.1, .bool a.q.2.2.1, .bool a.q.2.2.2, .slice pp ln cl] 29)).alloc (.cells #[.int .i64 b.k, .int .i64 b.n, .string (bs b.s), .int .i64 b.e, .int .i64 b.r.1, .int .i64 b.r.2.1, .bool b.r.2.2.1, .bool b.r.2.2.2, .int .i64 b.q.1, .int .i64 b.q.2.1, .bool b.q.2.2.1, .bool b.q.2.2.2, .slice qq lm cm] 29))) := ((Ext.refl _).alloc _).alloc _
 have HB : Hid (BlkX ((W.alloc (.cells #[.int .i64 a.k, .int .i64 a.n, .string (bs a.s), .int .i64 a.e, .int .i64 a.r.1, .int .i64 a.r.2.1, .bool a.r.2.2.1, .bool a.r.2.2.2, .int .i64 a.q.1, .int .i64 a.q.2.1, .bool a.q.2.2.1, .bool a.q.2.2.2, .slice pp ln cl] 29)).alloc (.cells #[.int .i64 b.k, .int .i64 b.n, .string (bs b.s), .int .i64 b.e, .int .i64 b.r.1, .int .i64 b.r.2.1, .bool b.r.2.2.1, .bool b.r.2.2.2, .int .i64 b.q.1, .int .i64 b.q.2.1, .bool b.q.2.2.1, .bool b.q.2.2.2, .slice qq lm cm] 29)) W.heap.size a (.slice pp ln cl) ∧ BlkX ((W.alloc (.cells #[.int .i64 a.k, .int .i64 a.n, .string (bs a.s), .int .i64 a.e, .int .i64 a.r.1, .int .i64 a.r.2.1, .bool a.r.2.2.1, .bool a.r.2.2.2, .int .i64 a.q.1, .int .i64 a.q.2.1, .bool a.q.2.2.1, .bool a.q.2.2.2, .slice pp ln cl] 29)).alloc (.cells #[.int .i64 b.k, .int .i64 b.n, .string (bs b.s), .int .i64 b.e, .int .i64 b.r.1, .int .i64 b.r.2.1, .bool b.r.2.2.1, .bool b.r.2.2.2, .int .i64 b.q.1, .int .i64 b.q.2.1, .bool b.q.2.2.1, .bool b.q.2.2.2, .slice qq lm cm] 29)) (W.heap.size + 1) b (.slice qq lm cm)) := ⟨blk13_top rfl ((Ext.refl _).alloc _), blk13_top (by simp) (Ext.refl _)⟩
 generalize ((W.alloc (.cells #[.int .i64 a.k, .int .i64 a.n, .string (bs a.s), .int .i64 a.e, .int .i64 a.r.1, .int .i64 a.r.2.1, .bool a.r.2.2.1, .bool a.r.2.2.2, .int .i64 a.q.1, .int .i64 a.q.2.1, .bool a.q.2.2.1, .bool a.q.2.2.2, .slice pp ln cl] 29)).alloc (.cells #[.int .i64 b.k, .int .i64 b.n, .string (bs b.s), .int .i64 b.e, .int .i64 b.r.1, .int .i64 b.r.2.1, .bool b.r.2.2.1, .bool b.r.2.2.2, .int .i64 b.q.1, .int .i64 b.q.2.1, .bool b.q.2.2.1, .bool b.q.2.2.2, .slice qq lm cm] 29)) = W1 at *
 have mkS : Hid (∀ V, Ext W1 V → (V.cell? ⟨W.heap.size, 0, none⟩ = some (.int .i64 a.k) ∧ V.cell? ⟨W.heap.size, 1, none⟩ = some (.int .i64 a.n) ∧ V.cell? ⟨W.heap.size, 2, none⟩ = some (.string (bs a.s)) ∧ V.cell? ⟨W.heap.size, 3, none⟩ = some (.int .i64 a.e) ∧ V.cell? ⟨W.heap.size, 4, none⟩ = some (.int .i64 a.r.1) ∧ V.cell? ⟨W.heap.size, 5, none⟩ = some (.int .i64 a.r.2.1) ∧ V.cell? ⟨W.heap.size, 6, none⟩ = some (.bool a.r.2.2.1) ∧ V.cell? ⟨W.heap.size, 7, none⟩ = some (.bool a.r.2.2.2) ∧ V.cell? ⟨W.heap.size, 8, none⟩ = some (.int .i64 a.q.1) ∧ V.cell? ⟨W.heap.size, 9, none⟩ = some (.int .i64 a.q.2.1) ∧ V.cell? ⟨W.heap.size, 10, none⟩ = some (.bool a.q.2.2.1) ∧ V.cell? ⟨W.heap.size, 11, none⟩ = some (.bool a.q.2.2.2) ∧ V.cell? ⟨W.heap.size, 12, none⟩ = some (.slice pp ln cl)) ∧ (V.cell? ⟨W.heap.size + 1, 0, none⟩ = some (.int .i64 b.k) ∧ V.cell? ⟨W.heap.size + 1, 1, none⟩ = some (.int .i64 b.n) ∧ V.cell? ⟨W.heap.size + 1, 2, none⟩ = some (.string (bs b.s)) ∧ V.cell? ⟨W.heap.size + 1, 3, none⟩ = some (.int .i64 b.e) ∧ V.cell? ⟨W.heap.size + 1, 4, none⟩ = some (.int .i64 b.r.1) ∧ V.cell? ⟨W.heap.size + 1, 5, none⟩ = some (.int .i64 b.r.2.1) ∧ V.cell? ⟨W.heap.size + 1, 6, none⟩ = some (.bool b.r.2.2.1) ∧ V.cell? ⟨W.heap.size + 1, 7, none⟩ = some (.bool b.r.2.2.2) ∧ V.cell? ⟨W.heap.size + 1, 8, none⟩ = some (.int .i64 b.q.1) ∧ V.cell? ⟨W.heap.size + 1, 9, none⟩ = some (.int .i64 b.q.2.1) ∧ V.cell? ⟨W.heap.size + 1, 10, none⟩ = some (.bool b.q.2.2.1) ∧ V.cell? ⟨W.heap.size + 1, 11, none⟩ = some (.bool b.q.2.2.2) ∧ V.cell? ⟨W.heap.size + 1, 12, none⟩ = some (.slice qq lm cm))) := fun V e => ⟨(HB.out.1.ext e).2.1, (HB.out.2.ext e).2.1⟩
 refine bar_begin (B := fun i => i == 9) (S := fun V => ((V.cell? ⟨W.heap.size, 0, none⟩ = some (.int .i64 a.k) ∧ V.cell? ⟨W.heap.size, 1, none⟩ = some (.int .i64 a.n) ∧ V.cell? ⟨W.heap.size, 2, none⟩ = some (.string (bs a.s)) ∧ V.cell? ⟨W.heap.size, 3, none⟩ = some (.int .i64 a.e) ∧ V.cell? ⟨W.heap.size, 4, none⟩ = some (.int .i64 a.r.1) ∧ V.cell? ⟨W.heap.size, 5, none⟩ = some (.int .i64 a.r.2.1) ∧ V.cell? ⟨W.heap.size, 6, none⟩ = some (.bool a.r.2.2.1) ∧ V.cell? ⟨W.heap.size, 7, none⟩ = some (.bool a.r.2.2.2) ∧ V.cell? ⟨W.heap.size, 8, none⟩ = some (.int .i64 a.q.1) ∧ V.cell? ⟨W.heap.size, 9, none⟩ = some (.int .i64 a.q.2.1) ∧ V.cell? ⟨W.heap.size, 10, none⟩ = some (.bool a.q.2.2.1) ∧ V.cell? ⟨W.heap.size, 11, none⟩ = some (.bool a.q.2.2.2) ∧ V.cell? ⟨W.heap.size, 12, none⟩ = some (.slice pp ln cl)) ∧ (V.cell? ⟨W.heap.size + 1, 0, none⟩ = some (.int .i64 b.k) ∧ V.cell? ⟨W.heap.size + 1, 1, none⟩ = some (.int .i64 b.n) ∧ V.cell? ⟨W.heap.size + 1, 2, none⟩ = some (.string (bs b.s)) ∧ V.cell? ⟨W.heap.size + 1, 3, none⟩ = some (.int .i64 b.e) ∧ V.cell? ⟨W.heap.size + 1, 4, none⟩ = some (.int .i64 b.r.1) ∧ V.cell? ⟨W.heap.size + 1, 5, none⟩ = some (.int .i64 b.r.2.1) ∧ V.cell? ⟨W.heap.size + 1, 6, none⟩ = some (.bool b.r.2.2.1) ∧ V.cell? ⟨W.heap.size + 1, 7, none⟩ = some (.bool b.r.2.2.2) ∧ V.cell? ⟨W.heap.size + 1, 8, none⟩ = some (.int .i64 b.q.1) ∧ V.cell? ⟨W.heap.size + 1, 9, none⟩ = some (.int .i64 b.q.2.1) ∧ V.cell? ⟨W.heap.size + 1, 10, none⟩ = some (.bool b.q.2.2.1) ∧ V.cell? ⟨W.heap.size + 1, 11, none⟩ = some (.bool b.q.2.2.2) ∧ V.cell? ⟨W.heap.size + 1, 12, none⟩ = some (.slice qq lm cm)))) (by kernel_rfl) ?_
 have hS0 := mkS.out (World.drew W1) (Ext.refl _).drew
 refine bar_take (i := 0) (v := ?v0) rfl (by kernel_rfl) (by kernel_rfl) (by kernel_rfl) (by kernel_rfl) (fun _ _ _ h => h) (Or.inl ⟨by rfl, ?hy0⟩) hS0 ?rest0
 case hy0 => (intro W hSW; (try dsimp only at hSW); go_simp; with_reducible rfl)
 simp only [Act.put, List.setIfInBounds_toArray]
 refine bar_take (i := 1) (v := ?v1) rfl (by kernel_rfl) (by kernel_rfl) (by kernel_rfl) (by kernel_rfl) (fun _ _ _ h => h) (Or.inl ⟨by rfl, ?hy1⟩) hS0 ?rest1
 case hy1 => (intro W hSW; (try dsimp only at hSW); go_simp; with_reducible rfl)
 simp only [Act.put]
 refine bar_take (i := 2) (v := ?v2) rfl (by kernel_rfl) (by kernel_rfl) (by kernel_rfl) (by kernel_rfl) (fun _ _ _ h => h) (Or.inl ⟨by rfl, ?hy2⟩) hS0 ?rest2
 case hy2 => (intro W hSW; (try dsimp only at hSW); go_simp; with_reducible rfl)
 simp only [Act.put]
 refine bar_take (i := 4) (v := ?v4) rfl (by kernel_rfl) (by kernel_rfl) (by kernel_rfl) (by kernel_rfl) (fun _ _ _ h => h) (Or.inl ⟨by rfl, ?hy4⟩) hS0 ?rest4
 case hy4 => (intro W hSW; (try dsimp only at hSW); go_simp; with_reducible rfl)
 simp only [Act.put]
 refine bar_take (i := 5) (v := ?v5) rfl (by kernel_rfl) (by kernel_rfl) (by kernel_rfl) (by kernel_rfl) (fun _ _ _ h => h) (Or.inl ⟨by rfl, ?hy5⟩) hS0 ?rest5
 case hy5 => (intro W hSW; (try dsimp only at hSW); go_simp; with_reducible rfl)
 simp only [Act.put]
 refine bar_take (i := 6) (v := ?v6) rfl (by kernel_rfl) (by kernel_rfl) (by kernel_rfl) (by kernel_rfl) (fun _ _ _ h => h) (Or.inl ⟨by rfl, ?hy6⟩) hS0 ?rest6
 case hy6 => (intro W hSW; (try dsimp only at hSW); go_simp; with_reducible rfl)
 simp only [Act.put]
 refine bar_one (i := 3) (by kernel_rfl) rfl (fun KK hKK => ?_)
 go_simp
 go_wp2_with (go_at_call 47; refine Calls.mono (form_any n a HR.out.1 r1 c1 _ (fun _ => True) pp ln cl (HI.out.1.ext (HW1.out.trans (Ext.refl _).drew))) ?_; rintro e w5 ⟨p1, l1, k1, rfl, L5, E5⟩)
 have X5 : Ext W1 w5 := Ext.trans (Ext.refl _).drew E5
 have HL5 : Hid (IsL w5 (fun _ => True) (.slice p1 l1 k1) (mpT (mvE (wrap64 (-r1)) (wrap64 (-c1))) n a).l) := L5.mono (fun _ _ _ => trivial)
 refine hKK.out _ _ (fun _ => mkS.out _ X5) ?_
 clear hKK KK hS0 L5 E5
 refine bar_one (i := 7) (by kernel_rfl) rfl (fun KK hKK => ?_)
 go_simp
 go_wp2_with (go_at_call 47; refine Calls.mono (form_any n b HR.out.2.1 r2 c2 _ (fun _ => True) qq lm cm (HI.out.2.ext (HW1.out.trans X5))) ?_; rintro e w6 ⟨p2, l2, k2, rfl, L6, E6⟩)
 have X6 : Ext W1 w6 := X5.trans E6
 have HL6 : Hid (IsL w6 (fun _ => True) (.slice p1 l1 k1) (mpT (mvE (wrap64 (-r1)) (wrap64 (-c1))) n a).l ∧ IsL w6 (fun _ => True) (.slice p2 l2 k2) (mpT (mvE (wrap64 (-r2)) (wrap64 (-c2))) n b).l ∧ Ext W w6) := ⟨HL5.out.ext E6, L6.mono (fun _ _ _ => trivial), HW1.out.trans X6⟩
 refine hKK.out _ _ (fun _ => mkS.out _ X6) ?_
 clear hKK KK L6 E6 HL5
 have C8 := psame_any (fun _ => True) n (mpT (mvE (wrap64 (-r1)) (wrap64 (-c1))) n a) HR.out.2.2 (mpT (mvE (wrap64 (-r2)) (wrap64 (-c2))) n b) w6 p1 p2 l1 k1 l2 k2 HL6.out.1 HL6.out.2.1
 obtain ⟨y1, hy1⟩ : ∃ y1, (mpT (mvE (wrap64 (-r1)) (wrap64 (-c1))) n a) = y1 := ⟨_, rfl⟩
 obtain ⟨y2, hy2⟩ : ∃ y2, (mpT (mvE (wrap64 (-r2)) (wrap64 (-c2))) n b) = y2 := ⟨_, rfl⟩
 have HYY : Hid ((mpT (mvE (wrap64 (-r1)) (wrap64 (-c1))) n a) = y1 ∧ (mpT (mvE (wrap64 (-r2)) (wrap64 (-c2))) n b) = y2) := ⟨hy1, hy2⟩
 rw [hy1, hy2] at C8 ⊢
 clear hy1 hy2
 unfold aggX
 refine bar_one (i := 8) (by kernel_rfl) rfl (fun KK hKK => ?_)
 go_simp
 go_wp2_with (go_at_call 46; refine Calls.mono C8 ?_; rintro e w7 ⟨rfl, E7⟩)
 have X7 : Ext W1 w7 := X6.trans E7
 refine hKK.out _ _ (fun _ => mkS.out _ X7) ?_
 clear hKK KK mkS
 have H7 : Hid (Ext W w7) := HL6.out.2.2.trans E7
 clear E7 X7 X6 X5
 refine bar_one (i := 9) (by kernel_rfl) rfl (fun KK hKK => ?_)
 go_simp
 refine hKK.out _ _ (fun h => absurd h (by decide)) ?_
 clear hKK KK
 refine bar_done (by kernel_rfl) ?_ _
 go_wp2_with fail
 go_ret
 exact ⟨by first | rfl | (rw [HYY.out.1, HYY.out.2]; rfl), H7.out⟩
open Go.RowKit
set_option maxHeartbeats 4000000
def alk (N : Nat) (a b : Cl) : Bool := sameT N (mpT (mvE (wrap64 (-a.row)) (wrap64 (-a.col))) N a.x) (mpT (mvE (wrap64 (-b.row)) (wrap64 (-b.col))) N b.x)
set_option maxRecDepth 100000 in
theorem goes_any (N B : Nat) (a c : Cl) (la lc : Value) (W : World) (hL : IsL W (fun k => k < B) la a.x.l) (hM : IsL W (fun k => k < B) lc c.x.l) (ha : Hr N a.x) (hc : Hr N c.x) (hr : IntKind.i64.wrap (c.row - 1) = c.row - 1) :
   Calls Try.prog 13 #[aggC a la, aggC c lc] W fun e w' => e = .returned (.bool (nxB (alk N) a c)) ∧ Ext W w' := by
 obtain ⟨pp, cl, rfl, _hp⟩ := hL.form
 obtain ⟨qq, cm, rfl, _hq⟩ := hM.form
 have hA := fun V (e : Ext W V) => alike_any N a.x c.x ha hc a.row a.col c.row c.col V pp qq a.x.l.length cl c.x.l.length cm ((hL.ext e).mono (fun _ _ _ => trivial)) ((hM.ext e).mono (fun _ _ _ => trivial))
 obtain ⟨r, hR⟩ : ∃ r, alk N a c = r := ⟨_, rfl⟩
 unfold alk at hR
 rw [hR] at hA
 have HA : Hid (alk N a c = r) := hR
 clear hL hM ha hc hR _hp _hq
 unfold nxB
 rw [HA.out]
 obtain ⟨l1, hl1⟩ : ∃ l1, a.x.l.length = l1 := ⟨_, rfl⟩
 obtain ⟨l2, hl2⟩ : ∃ l2, c.x.l.length = l2 := ⟨_, rfl⟩
 rw [hl1, hl2] at hA
 rw [hl1, hl2]
 clear hl1 hl2
 unfold aggC
 obtain ⟨b, hb⟩ : ∃ b, a.is = b := ⟨_, rfl⟩
 rw [hb]
 clear hb
 obtain ⟨W2, hW2⟩ : ∃ W2, W2 = (W.alloc (.cells #[.int .i64 a.row, .int .i64 a.col, .string a.txt, .bool b, .int .i64 a.x.k, .int .i64 a.x.n, .string (bs a.x.s), .int .i64 a.x.e, .int .i64 a.x.r.1, .int .i64 a.x.r.2.1, .bool a.x.r.2.2.1, .bool a.x.r.2.2.2, .int .i64 a.x.q.1, .int .i64 a.x.q.2.1, .bool a.x.q.2.2.1, .bool a.x.q.2.2.2, .slice pp l1 cl, .int .i64 a.vk, .int .i64 a.vn, .string a.vs, .int .i64 a.ve] 33)).alloc (.cells #[.int .i64 c.row, .int .i64 c.col, .string c.txt, .bool c.is, .int .i64 c.x.k, .int .i64 c.x.n, .string (bs c.x.s), .int .i64 c.x.e, .int .i64 c.x.r.1, .int .i64 c.x.r.2.1, .bool c.x.r.2.2.1, .bool c.x.r.2.2.2, .int .i64 c.x.q.1, .int .i64 c.x.q.2.1, .bool c.x.q.2.2.1, .bool c.x.q.2.2.2, .slice qq l2 cm, .int .i64 c.vk, .int .i64 c.vn, .string c.vs, .int .i64 c.ve] 33) := ⟨_, rfl⟩
 have E2 : Hid (Ext W W2) := by rw [hW2]; exact ((Ext.refl _).alloc _).alloc _
 have cA := hA W2 E2.out
 rw [hW2] at cA
 have HX : Hid (W2 = (W.alloc (.cells #[.int .i64 a.row, .int .i64 a.col, .string a.txt, .bool b, .int .i64 a.x.k, .int .i64 a.x.n, .string (bs a.x.s), .int .i64 a.x.e, .int .i64 a.x.r.1, .int .i64 a.x.r.2.1, .bool a.x.r.2.2.1, .bool a.x.r.2.2.2, .int .i64 a.x.q.1, .int .i64 a.x.q.2.1, .bool a.x.q.2.2.1, .bool a.x.q.2.2.2, .slice pp l1 cl, .int .i64 a.vk, .int .i64 a.vn, .string a.vs, .int .i64 a.ve] 33)).alloc (.cells #[.int .i64 c.row, .int .i64 c.col, .string c.txt, .bool c.is, .int .i64 c.x.k, .int .i64 c.x.n, .string (bs c.x.s), .int .i64 c.x.e, .int .i64 c.x.r.1, .int .i64 c.x.r.2.1, .bool c.x.r.2.2.1, .bool c.x.r.2.2.2, .int .i64 c.x.q.1, .int .i64 c.x.q.2.1, .bool c.x.q.2.2.1, .bool c.x.q.2.2.2, .slice qq l2 cm, .int .i64 c.vk, .int .i64 c.vn, .string c.vs, .int .i64 c.ve] 33)) := hW2
 clear hA hW2
 go_enter Try.func13, Try.ntmps13
 cases b with
 | false =>
   go_wp2_with fail
   go_ret
   refine ⟨rfl, ?_⟩
   have := E2.out
   rw [HX.out] at this
   exact this
 | true =>
   by_cases h : a.row = c.row - 1
   · have h1 : (a.row == c.row - 1) = true := by simp [h]
     have h2 : decide (a.row = c.row - 1) = true := by simp [h]
     rw [h2]
     clear h h2
     go_wp2_with fail
     refine cA.mono ?_
     rintro e w3 ⟨rfl, E3⟩
     rw [← HX.out] at E3
     have E4 : Hid (Ext W w3) := E2.out.trans E3
     clear E3
     go_wp2_with fail
     go_ret
     exact ⟨rfl, E4.out⟩
   · have h1 : (a.row == c.row - 1) = false := by simp [h]
     have h2 : decide (a.row = c.row - 1) = false := by simp [h]
     rw [h2]
     clear h h2
     go_wp2_with fail
     go_ret
     refine ⟨rfl, ?_⟩
     have := E2.out
     rw [HX.out] at this
     exact this
open Go.RowKit
set_option maxHeartbeats 1000000
theorem setCells_row {g : Nat} {T : TypeId} : ∀ (vs : List Value) (o : Nat) (w : World) (cur : Array Value), w.heap[g]? = some (.cells cur T (0, 0)) → o + vs.length ≤ cur.size →
   ∃ cur', (w.setCells g o vs).heap[g]? = some (.cells cur' T (0, 0)) ∧ cur'.size = cur.size ∧ (∀ j : Nat, cur'[j]? = if o ≤ j ∧ j < o + vs.length then vs[j - o]? else cur[j]?) ∧ w.grownBy (w.setCells g o vs) (some g)
 | [], o, w, cur, h, _ => ⟨cur, h, rfl, fun j => by rw [if_neg (by simp)], ⟨rfl, rfl, rfl, Nat.le_refl _, fun _ _ _ => rfl⟩⟩
 | v :: r, o, w, cur, h, hs => by
   simp at hs
   obtain ⟨cur', h1, h2, h3, h4⟩ := setCells_row r (o + 1) (w.setCell ⟨g, o, none⟩ v) (cur.setIfInBounds o v) (Lib.heap_setCell_same h v) (by simp; omega)
   refine ⟨cur', h1, by rw [h2]; simp, fun j => ?_, ?_⟩
   · rw [h3 j]
     by_cases hj : j = o
     · subst hj
       rw [if_neg (by omega), if_pos (by simp), Nat.sub_self, List.getElem?_cons_zero, Array.getElem?_setIfInBounds_self_of_lt (by omega)]
     · by_cases hj2 : o + 1 ≤ j ∧ j < o + 1 + r.length
       · rw [if_pos hj2, if_pos (by simp; omega)]
         obtain ⟨m, rfl⟩ : ∃ m, j = o + 1 + m := ⟨j - (o + 1), by omega⟩
         rw [show o + 1 + m - (o + 1) = m by omega, show o + 1 + m - o = m + 1 by omega]
         rfl
       · rw [if_neg hj2, if_neg (by simp; omega)]
         rw [Array.getElem?_setIfInBounds_ne (by omega)]
   · refine ⟨h4.os, h4.tape, h4.output, Nat.le_trans (by simp [World.setCell]) h4.size, fun k hk hn => ?_⟩
     refine (h4.block k (by simpa [World.setCell] using hk) hn).trans ?_
     exact heap_setCell_other w ⟨g, o, none⟩ k v (fun e => hn (by rw [e]))
theorem own_set {α : Type} {c : α → List Value} {k : Nat} (hc : ∀ x, (c x).length = k) (hk : 0 < k) {W : World} {base g n cap : Nat} {T : TypeId} {M : List α} (h : W.ownsRow base T k (.slice (some ⟨g, 0, none⟩) n cap) n (M.flatMap c)) {i : Nat} (hi : i < n) (x : α) :
   (W.setCells g (i * k) (c x)).ownsRow base T k (.slice (some ⟨g, 0, none⟩) n cap) n ((M.set i x).flatMap c) ∧ W.grownBy (W.setCells g (i * k) (c x)) (some g) := by
 have hM : M.length = n := by
   have := h.1
   rw [gm_len hc] at this
   exact Nat.eq_of_mul_eq_mul_right hk this
 rcases h.2 with ⟨h0, _⟩ | ⟨g', cap', cur, e, hb, hg, hn, hcm, hs, ht⟩
 · cases h0
 · cases e
   have hle : (i + 1) * k ≤ n * k := Nat.mul_le_mul_right k hi
   have hle2 : n * k ≤ cap * k := Nat.mul_le_mul_right k hn
   rw [Nat.succ_mul] at hle
   obtain ⟨cur', h1, h2, h3, h4⟩ := setCells_row (c x) (i * k) W cur hg (by rw [hc]; omega)
   refine ⟨⟨by rw [gm_len hc, List.length_set, hM], .inr ⟨g, cap, cur', rfl, hb, h1, hn, hcm, by rw [h2]; exact hs, ?_⟩⟩, h4⟩
   refine List.ext_getElem? (fun j => ?_)
   by_cases hj : j < n * k
   · rw [List.getElem?_take, if_pos hj, Array.getElem?_toList, h3 j, hc]
     have hd : j / k < n := by rw [Nat.div_lt_iff_lt_mul hk]; exact hj
     have hdm : j / k * k + j % k = j := by rw [Nat.mul_comm]; exact Nat.div_add_mod j k
     have hml := Nat.mod_lt j hk
     obtain ⟨y, hy⟩ : ∃ y, (M.set i x)[j / k]? = some y := ⟨_, List.getElem?_eq_getElem (by rw [List.length_set]; omega)⟩
     have e2 := gm_at hc (M.set i x) (j / k) y (j % k) hy hml
     rw [hdm] at e2
     rw [e2]
     by_cases hik : j / k = i
     · rw [hik, List.getElem?_set_self (by omega)] at hy
       cases hy
       rw [if_pos (by rw [← hik]; omega), show j - i * k = j % k by rw [← hik]; omega]
     · rw [List.getElem?_set_ne (Ne.symm hik)] at hy
       have e3 := gm_at hc M (j / k) y (j % k) hy hml
       rw [hdm] at e3
       have hout : ¬ (i * k ≤ j ∧ j < i * k + k) := by
         rintro ⟨a1, a2⟩
         apply hik
         apply Nat.le_antisymm
         · exact Nat.le_of_lt_succ (by rw [Nat.div_lt_iff_lt_mul hk, Nat.succ_mul]; exact a2)
         · rw [Nat.le_div_iff_mul_le hk]; exact a1
       rw [if_neg hout, ← e3, ← ht, List.getElem?_take, if_pos hj, Array.getElem?_toList]
   · rw [List.getElem?_eq_none (by simp; omega), List.getElem?_eq_none (by rw [gm_len hc, List.length_set, hM]; omega)]
theorem own_cut {α : Type} {c : α → List Value} {k : Nat} (hc : ∀ x, (c x).length = k) (hk : 0 < k) {W : World} {base g n cap : Nat} {T : TypeId} {M : List α} (h : W.ownsRow base T k (.slice (some ⟨g, 0, none⟩) n cap) n (M.flatMap c)) {i : Nat} (hi : i ≤ n) (vs : List Value) (hv : i * k + vs.length ≤ n * k) :
   (W.setCells g (i * k) vs).ownsRow base T k (.slice (some ⟨g, 0, none⟩) i cap) i ((M.take i).flatMap c) ∧ W.grownBy (W.setCells g (i * k) vs) (some g) := by
 have hM : M.length = n := by
   have := h.1
   rw [gm_len hc] at this
   exact Nat.eq_of_mul_eq_mul_right hk this
 rcases h.2 with ⟨h0, _⟩ | ⟨g', cap', cur, e, hb, hg, hn, hcm, hs, ht⟩
 · cases h0
 · cases e
   have hle2 : n * k ≤ cap * k := Nat.mul_le_mul_right k hn
   have hle : i * k ≤ n * k := Nat.mul_le_mul_right k hi
   obtain ⟨cur', h1, h2, h3, h4⟩ := setCells_row vs (i * k) W cur hg (by omega)
   have hl : (M.take i).length = i := by simp; omega
   refine ⟨⟨by rw [gm_len hc, hl], .inr ⟨g, cap, cur', rfl, hb, h1, by omega, hcm, by rw [h2]; exact hs, ?_⟩⟩, h4⟩
   have e1 : cur'.toList.take (i * k) = cur.toList.take (i * k) := by
     refine List.ext_getElem? (fun j => ?_)
     rw [List.getElem?_take, List.getElem?_take]
     split
     · rw [Array.getElem?_toList, Array.getElem?_toList, h3 j, if_neg (by omega)]
     · rfl
   have e2 : M.flatMap c = (M.take i).flatMap c ++ (M.drop i).flatMap c := by rw [← List.flatMap_append, List.take_append_drop]
   rw [e1, show cur.toList.take (i * k) = (cur.toList.take (n * k)).take (i * k) by rw [List.take_take, Nat.min_eq_left hle], ht, e2, List.take_append_of_le_length (by rw [gm_len hc, hl]; omega), List.take_of_length_le (by rw [gm_len hc, hl]; omega)]
theorem grown_tr {w w1 w2 : World} {g : Option Nat} (h : w.grownBy w1 g) (k : w1.grownBy w2 g) : w.grownBy w2 g :=
 ⟨k.os.trans h.os, k.tape.trans h.tape, k.output.trans h.output, Nat.le_trans h.size k.size, fun q hq hn => (k.block q (Nat.lt_of_lt_of_le hq h.size) hn).trans (h.block q hq hn)⟩
theorem Ext.gr {w w1 : World} (h : Ext w w1) (g : Option Nat) : w.grownBy w1 g := ⟨h.os, h.tape, h.output, h.size, fun q hq _ => h.block q hq⟩
structure ExtS (S : Nat → Prop) (w w' : World) : Prop where
 os : w'.os = w.os
 tape : w'.tape = w.tape
 output : w'.output = w.output
 size : w.heap.size ≤ w'.heap.size
 block : ∀ k, k < w.heap.size → ¬ S k → w'.heap[k]? = w.heap[k]?
theorem ExtS.refl (S : Nat → Prop) (w : World) : ExtS S w w := ⟨rfl, rfl, rfl, Nat.le_refl _, fun _ _ _ => rfl⟩
theorem ExtS.trans {S : Nat → Prop} {x y z : World} (h : ExtS S x y) (k : ExtS S y z) : ExtS S x z :=
 ⟨k.os.trans h.os, k.tape.trans h.tape, k.output.trans h.output, Nat.le_trans h.size k.size, fun i hi hs => (k.block i (Nat.lt_of_lt_of_le hi h.size) hs).trans (h.block i hi hs)⟩
theorem Ext.toS {w w' : World} (h : Ext w w') (S : Nat → Prop) : ExtS S w w' := ⟨h.os, h.tape, h.output, h.size, fun k hk _ => h.block k hk⟩
theorem ExtS.ext {S : Nat → Prop} {w0 w w' : World} (h : ExtS S w w') (e : Ext w0 w) (hS : ∀ k, S k → w0.heap.size ≤ k) : Ext w0 w' :=
 ⟨h.os.trans e.os, h.tape.trans e.tape, h.output.trans e.output, Nat.le_trans e.size h.size, fun k hk => (h.block k (Nat.lt_of_lt_of_le hk e.size) (fun hs => by have := hS k hs; omega)).trans (e.block k hk)⟩
theorem ExtS.mono {S S' : Nat → Prop} {w w' : World} (h : ExtS S w w') (hs : ∀ k, S k → S' k) : ExtS S' w w' := ⟨h.os, h.tape, h.output, h.size, fun k hk hn => h.block k hk (fun h' => hn (hs k h'))⟩
theorem ExtS.grown {S : Nat → Prop} {w0 w w' : World} {r : Option Nat} (h : ExtS S w0 w) (hg : w.grownBy w' r) (hr : ∀ g, r = some g → S g ∨ w0.heap.size ≤ g) : ExtS S w0 w' :=
 ⟨hg.os.trans h.os, hg.tape.trans h.tape, hg.output.trans h.output, Nat.le_trans h.size hg.size, fun k hk hs => (hg.block k (Nat.lt_of_lt_of_le hk h.size) (fun e => by
   rcases hr k e.symm with h1 | h1
   · exact hs h1
   · omega)).trans (h.block k hk hs)⟩
theorem ExtS.next {S : Nat → Prop} {w0 w w' : World} (h : ExtS S w0 w) (e : Ext w w') : ExtS S w0 w' := h.trans (e.toS S)
theorem rng_heap {w : World} {b o : Nat} {cs ds : List Value} {T : TypeId} (h : w.heap[b]? = some (.cells cs.toArray T (0, 0))) (hd : ∀ j v, ds[j]? = some v → cs[o + j]? = some v) : w.rangeAt b o ds := fun j v hj => by
 rw [cell_of_row w b (o + j) _ T (0, 0) h]
 simpa using hd j v hj
theorem there_heap {w : World} {b o n : Nat} {cs : List Value} {T : TypeId} (h : w.heap[b]? = some (.cells cs.toArray T (0, 0))) (hn : o + n ≤ cs.length) : w.there b o n := fun j hj => by
 refine ⟨?_, frozen_of_row w b _ _ _ h⟩
 rw [cell_of_row w b (o + j) _ T (0, 0) h]
 simp; omega
theorem heap_tail {w : World} {b : Nat} {v : Value} {cs ds : List Value} {T : TypeId} (h : w.heap[b]? = some (.cells (v :: cs).toArray T (0, 0))) (hd : ds.length = cs.length) : (w.setCells b 1 ds).heap[b]? = some (.cells (v :: ds).toArray T (0, 0)) ∧ w.grownBy (w.setCells b 1 ds) (some b) := by
 obtain ⟨cur', h1, h2, h3, h4⟩ := setCells_row ds 1 w _ h (by simp; omega)
 refine ⟨?_, h4⟩
 rw [h1]
 congr 2
 apply Array.ext_getElem?
 intro j
 rw [h3 j]
 cases j with
 | zero => simp
 | succ j =>
   by_cases hj : j < ds.length
   · rw [if_pos ⟨by omega, by omega⟩]; simp
   · rw [if_neg (by omega)]
     simp
     rw [List.getElem?_eq_none (by omega), List.getElem?_eq_none (by omega)]
theorem heap_whole {w : World} {b : Nat} {cs ds : List Value} {T : TypeId} (h : w.heap[b]? = some (.cells cs.toArray T (0, 0))) (hd : ds.length = cs.length) : (w.setCells b 0 ds).heap[b]? = some (.cells ds.toArray T (0, 0)) ∧ w.grownBy (w.setCells b 0 ds) (some b) := by
 obtain ⟨cur', h1, h2, h3, h4⟩ := setCells_row ds 0 w _ h (by simp; omega)
 refine ⟨?_, h4⟩
 rw [h1]
 congr 2
 apply Array.ext_getElem?
 intro j
 rw [h3 j]
 by_cases hj : j < ds.length
 · rw [if_pos ⟨by omega, by omega⟩]; simp
 · rw [if_neg (by omega)]
   simp
   rw [List.getElem?_eq_none (by omega), List.getElem?_eq_none (by omega)]
theorem rng_whole {w : World} {b : Nat} {cs : List Value} {T : TypeId} (h : w.heap[b]? = some (.cells cs.toArray T (0, 0))) : w.rangeAt b 0 cs := rng_heap (o := 0) h (fun j v hj => by rw [Nat.zero_add]; exact hj)
theorem wpList_look {P : Program} (w : World) {ops : Array Oper} {rest : List Oper} {o : Oper} {a : Act} {Q : Exit → Act → World → Prop} (hg : o.guard = none) (m x : Operand) (t : TypeId) (hop : o.op = Op.lookup t m x false)
   (mv xv v : Value) (hm : a.eval m = mv) (hx : a.eval x = xv) (hrun : (Instr.lookup t mv xv false).run P w = .ok v w) (hK : wpList P ops Q rest (a.put o.dst v) w) : wpList P ops Q (o :: rest) a w := by
 refine wpList_plain hg fun K' hK' => ?_
 unfold Oper.wp
 simp [execOp, hop, hm, hx, hrun, Result.andThen]
 exact hK' _ _ hK
end Go.Proofs.Ytjhmbkdkjgjoaaa
