/-
  Package parse's Same and Deep, of any trees.
-/
import Derived.Test.YtmapfpeaaipdoaaGreatDoorQ21
import Derived.Test.YtmapfpeaaipdoaaGreatDoorQ28
namespace Go.Proofs.YtmapfpeaaipdoaaGreatDoor
open Go.RowKit
set_option maxHeartbeats 6000000

set_option maxRecDepth 100000 in
theorem equal_any (P : Nat → Prop) (n : Nat) (l m : List T) (pp qq : Option Addr) (ln cl lm cm : Nat) (w : World) (hl : l.length ≤ 100000) (hx : ∀ x ∈ l, SmC 9 P n x) (h : IsL w P (.slice pp ln cl) l) (h' : IsL w P (.slice qq lm cm) m) :
    Calls Tryz.prog 23 #[.slice pp ln cl, .slice qq lm cm, .func (.func 9) #[] #[]] w fun e w' => e = .returned (.bool (allZ (sameT n) l m)) ∧ Ext w w' := by
  have hln : l.length = ln := by
    obtain ⟨p, c, h1, _⟩ := h.form
    cases h1; rfl
  have hlm : m.length = lm := by
    obtain ⟨p, c, h1, _⟩ := h'.form
    cases h1; rfl
  have hent : ∀ args W, (callFunc 9 args).run Tryz.prog W = .ok (.enter 9 args) W := enters_of Tryz.func9 (by kernel_rfl) rfl
  have hl2 : ln ≤ 100000 := by omega
  by_cases hnl : ¬ ln = lm
  · have hnn : ((ln : Int) != (lm : Int)) = true := by simp; omega
    have HX : Hid (allZ (sameT n) l m = false) := allZ_len _ _ _ (by omega)
    clear hx h h' hln hlm hl hnl hent
    go_enter Tryz.func23, Tryz.ntmps23
    go_wp2_with fail
    go_ret
    exact ⟨ret_bool (by rw [HX.out]), Ext.refl _⟩
  have hll : ln = lm := Decidable.not_not.1 hnl
  clear hnl
  subst hll
  have HX : Hid (∀ x ∈ l, SmC 9 P n x) := hx
  have HI : Hid (IsL w P (.slice pp ln cl) l ∧ IsL w P (.slice qq ln cm) m) := ⟨h, h'⟩
  have HLN : Hid (l.length = ln ∧ m.length = ln) := ⟨hln, hlm⟩
  have hnn : ((ln : Int) != (ln : Int)) = false := by simp
  have hnm : ((ln : Int) == (ln : Int)) = true := by simp
  clear hx h h' hln hlm hl
  go_enter Tryz.func23, Tryz.ntmps23
  go_wp2_with fail
  go_loopw [7, 8, 9, 17] (fun _ _ _ i wr => ∃ j : Nat, j ≤ ln ∧ i = .int .i64 (j : Int) ∧ allZ (sameT n) (l.take j) (m.take j) = true ∧ Ext w wr) (fun _ _ _ i _ => ln - (intOf i).toNat)
  case atStart => exact ⟨0, Nat.zero_le _, rfl, rfl, Ext.refl _⟩
  case round =>
    obtain ⟨j, hj, rfl, hg, hE⟩ := hrel
    have HE : Hid (Ext w wr ∧ allZ (sameT n) (l.take j) (m.take j) = true) := ⟨hE, hg⟩
    clear hE hg
    by_cases hlt : j < ln
    · have hltI : (j : Int) < (ln : Int) := by omega
      obtain ⟨gb, off, x, lv, hpp, hx1, hA1, hgb, hA2, hLx, he⟩ := (HI.out.1.ext HE.out.1).at (i := j) (by rw [HLN.out.1]; exact hlt)
      obtain ⟨gc, ofc, y, lu, hqq, hy1, hA3, hgc, hA4, hLy, hf⟩ := (HI.out.2.ext HE.out.1).at (i := j) (by rw [HLN.out.2]; exact hlt)
      subst hpp
      subst hqq
      obtain ⟨p1, c1, hlv, hcl⟩ := hLx.form
      obtain ⟨p2, c2, hlu, hcm⟩ := hLy.form
      obtain ⟨l1, hl1⟩ : ∃ l1, x.l.length = l1 := ⟨_, rfl⟩
      obtain ⟨l2, hl2'⟩ : ∃ l2, y.l.length = l2 := ⟨_, rfl⟩
      rw [hl1] at hlv
      rw [hl2'] at hlu
      subst hlv
      subst hlu
      have HX1 : Hid (l[j]? = some x ∧ m[j]? = some y) := ⟨hx1, hy1⟩
      have HC : Hid (∀ V, Ext wr V → Calls Tryz.prog 9 #[.agg #[.int .i64 x.k, .int .i64 x.n, .string (bs x.s), .int .i64 x.e, .int .i64 x.r.1, .int .i64 x.r.2.1, .bool x.r.2.2.1, .bool x.r.2.2.2, .int .i64 x.q.1, .int .i64 x.q.2.1, .bool x.q.2.2.1, .bool x.q.2.2.2, .slice p1 l1 c1], .agg #[.int .i64 y.k, .int .i64 y.n, .string (bs y.s), .int .i64 y.e, .int .i64 y.r.1, .int .i64 y.r.2.1, .bool y.r.2.2.1, .bool y.r.2.2.2, .int .i64 y.q.1, .int .i64 y.q.2.1, .bool y.q.2.2.1, .bool y.q.2.2.2, .slice p2 l2 c2]] V fun e w' => e = .returned (.bool (sameT n x y)) ∧ Ext V w') := fun V e => HX.out x (List.mem_of_getElem? hx1) y V p1 p2 l1 c1 l2 c2 (hLx.ext e) (hLy.ext e)
      have e0 : wr.cell? ⟨gb, off + j * 13, none⟩ = some (.int .i64 x.k) := he 0 _ rfl
      have e1 : wr.cell? ⟨gb, off + j * 13 + 1, none⟩ = some (.int .i64 x.n) := he 1 _ rfl
      have e2 : wr.cell? ⟨gb, off + j * 13 + 2, none⟩ = some (.string (bs x.s)) := he 2 _ rfl
      have e3 : wr.cell? ⟨gb, off + j * 13 + 3, none⟩ = some (.int .i64 x.e) := he 3 _ rfl
      have e4 : wr.cell? ⟨gb, off + j * 13 + 4, none⟩ = some (.int .i64 x.r.1) := he 4 _ rfl
      have e5 : wr.cell? ⟨gb, off + j * 13 + 5, none⟩ = some (.int .i64 x.r.2.1) := he 5 _ rfl
      have e6 : wr.cell? ⟨gb, off + j * 13 + 6, none⟩ = some (.bool x.r.2.2.1) := he 6 _ rfl
      have e7 : wr.cell? ⟨gb, off + j * 13 + 7, none⟩ = some (.bool x.r.2.2.2) := he 7 _ rfl
      have e8 : wr.cell? ⟨gb, off + j * 13 + 8, none⟩ = some (.int .i64 x.q.1) := he 8 _ rfl
      have e9 : wr.cell? ⟨gb, off + j * 13 + 9, none⟩ = some (.int .i64 x.q.2.1) := he 9 _ rfl
      have e10 : wr.cell? ⟨gb, off + j * 13 + 10, none⟩ = some (.bool x.q.2.2.1) := he 10 _ rfl
      have e11 : wr.cell? ⟨gb, off + j * 13 + 11, none⟩ = some (.bool x.q.2.2.2) := he 11 _ rfl
      have e12 : wr.cell? ⟨gb, off + j * 13 + 12, none⟩ = some (.slice p1 l1 c1) := he 12 _ rfl
      have f0 : wr.cell? ⟨gc, ofc + j * 13, none⟩ = some (.int .i64 y.k) := hf 0 _ rfl
      have f1 : wr.cell? ⟨gc, ofc + j * 13 + 1, none⟩ = some (.int .i64 y.n) := hf 1 _ rfl
      have f2 : wr.cell? ⟨gc, ofc + j * 13 + 2, none⟩ = some (.string (bs y.s)) := hf 2 _ rfl
      have f3 : wr.cell? ⟨gc, ofc + j * 13 + 3, none⟩ = some (.int .i64 y.e) := hf 3 _ rfl
      have f4 : wr.cell? ⟨gc, ofc + j * 13 + 4, none⟩ = some (.int .i64 y.r.1) := hf 4 _ rfl
      have f5 : wr.cell? ⟨gc, ofc + j * 13 + 5, none⟩ = some (.int .i64 y.r.2.1) := hf 5 _ rfl
      have f6 : wr.cell? ⟨gc, ofc + j * 13 + 6, none⟩ = some (.bool y.r.2.2.1) := hf 6 _ rfl
      have f7 : wr.cell? ⟨gc, ofc + j * 13 + 7, none⟩ = some (.bool y.r.2.2.2) := hf 7 _ rfl
      have f8 : wr.cell? ⟨gc, ofc + j * 13 + 8, none⟩ = some (.int .i64 y.q.1) := hf 8 _ rfl
      have f9 : wr.cell? ⟨gc, ofc + j * 13 + 9, none⟩ = some (.int .i64 y.q.2.1) := hf 9 _ rfl
      have f10 : wr.cell? ⟨gc, ofc + j * 13 + 10, none⟩ = some (.bool y.q.2.2.1) := hf 10 _ rfl
      have f11 : wr.cell? ⟨gc, ofc + j * 13 + 11, none⟩ = some (.bool y.q.2.2.2) := hf 11 _ rfl
      have f12 : wr.cell? ⟨gc, ofc + j * 13 + 12, none⟩ = some (.slice p2 l2 c2) := hf 12 _ rfl
      clear hx1 hy1 hLx hLy he hf hcl hcm hl1 hl2' hA1 hA2 hA3 hA4
      go_wp2_with fail
      refine (HC.out _ (((Ext.refl _).alloc _).alloc _)).mono ?_
      rintro e w1 ⟨rfl, E1⟩
      have HE1 : Hid (Ext w w1) := ((HE.out.1.alloc _).alloc _).trans E1
      clear E1 e0 e1 e2 e3 e4 e5 e6 e7 e8 e9 e10 e11 e12 f0 f1 f2 f3 f4 f5 f6 f7 f8 f9 f10 f11 f12
      cases hgx : sameT n x y
      · have HR : Hid (allZ (sameT n) l m = false) := allZ_no _ _ _ j x y HX1.out.1 HX1.out.2 hgx
        clear hgx
        go_wp2_with fail
        go_ret
        exact ⟨ret_bool (by rw [HR.out]), HE1.out⟩
      · have HR : Hid (allZ (sameT n) (l.take (j + 1)) (m.take (j + 1)) = true) := by show _ = _; rw [allZ_take _ _ _ j x y HX1.out.1 HX1.out.2, HE.out.2, hgx]; rfl
        clear hgx
        go_wp2_with fail
        go_roundw
        case rel => exact ⟨j + 1, by omega, by go_num, HR.out, HE1.out⟩
        case measure => show ln - ((j : Int) + 1).toNat < ln - ((j : Int)).toNat; omega
    · have hltI : ¬ (j : Int) < (ln : Int) := by omega
      have HR : Hid (allZ (sameT n) l m = true) := by
        show _ = _
        have := HE.out.2
        rw [List.take_of_length_le (by have := HLN.out.1; omega), List.take_of_length_le (by have := HLN.out.2; omega)] at this
        exact this
      go_wp2_with fail
      go_ret
      exact ⟨ret_bool (by rw [HR.out]), HE.out.1⟩
set_option maxRecDepth 100000 in
theorem psame_step (P : Nat → Prop) (n : Nat) (a : T) (hl : a.l.length ≤ 100000) (hx : ∀ x ∈ a.l, SmC 9 P n x) : SmC 9 P (n + 1) a := by
  intro b W pp qq ln cl lm cm hI hJ
  have eR := fun W => eq_rf a.r b.r W
  have eQ := fun W => eq_rf a.q b.q W
  by_cases hnb : ¬ a.k = b.k
  · have hkb := hnb
    clear hnb
    have kn : (a.k != b.k) = true := by simpa using hkb
    have HX : Hid (sameT (n + 1) a b = false) := by show _ = _; unfold sameT; rw [if_pos hkb]
    clear hkb hI hJ hl hx eR eQ
    go_enter Tryz.func9, Tryz.ntmps9
    go_wp2_with fail
    go_ret
    exact ⟨ret_bool (by rw [HX.out]), ((Ext.refl _).alloc _).alloc _⟩
  have hkb : a.k = b.k := Decidable.not_not.1 hnb
  clear hnb
  have kn : (a.k != b.k) = false := by rw [hkb]; simp
  by_cases hk : a.k = 0
  · have e0 : (a.k == 0) = true := by rw [hk]; rfl
    have e2 : (a.k == 2) = false := by rw [hk]; rfl
    have e1 : (a.k == 1) = false := by rw [hk]; rfl
    have e3 : (a.k == 3) = false := by rw [hk]; rfl
    have e4 : (a.k == 4) = false := by rw [hk]; rfl
    have e5 : (a.k == 5) = false := by rw [hk]; rfl
    have e7 : (a.k == 7) = false := by rw [hk]; rfl
    have e8 : (a.k == 8) = false := by rw [hk]; rfl
    have HX : Hid (sameT (n + 1) a b = (a.n == b.n)) := by show _ = _; unfold sameT; rw [if_neg (by rw [← hkb]; simp)]; simp [hk]
    clear hk hkb hI hJ hl hx eR eQ
    go_enter Tryz.func9, Tryz.ntmps9
    go_wp2_with fail
    go_ret
    exact ⟨ret_bool (by rw [HX.out]), ((Ext.refl _).alloc _).alloc _⟩
  have n0 := hk
  clear hk
  by_cases hk : a.k = 2
  · have e0 : (a.k == 0) = false := by rw [hk]; rfl
    have e2 : (a.k == 2) = true := by rw [hk]; rfl
    have e1 : (a.k == 1) = false := by rw [hk]; rfl
    have e3 : (a.k == 3) = false := by rw [hk]; rfl
    have e4 : (a.k == 4) = false := by rw [hk]; rfl
    have e5 : (a.k == 5) = false := by rw [hk]; rfl
    have e7 : (a.k == 7) = false := by rw [hk]; rfl
    have e8 : (a.k == 8) = false := by rw [hk]; rfl
    have HX : Hid (sameT (n + 1) a b = (a.n == b.n)) := by show _ = _; unfold sameT; rw [if_neg (by rw [← hkb]; simp)]; simp [hk]
    clear hk hkb hI hJ hl hx eR eQ
    go_enter Tryz.func9, Tryz.ntmps9
    go_wp2_with fail
    go_ret
    exact ⟨ret_bool (by rw [HX.out]), ((Ext.refl _).alloc _).alloc _⟩
  have n2 := hk
  clear hk
  by_cases hk : a.k = 1
  · have e0 : (a.k == 0) = false := by rw [hk]; rfl
    have e2 : (a.k == 2) = false := by rw [hk]; rfl
    have e1 : (a.k == 1) = true := by rw [hk]; rfl
    have e3 : (a.k == 3) = false := by rw [hk]; rfl
    have e4 : (a.k == 4) = false := by rw [hk]; rfl
    have e5 : (a.k == 5) = false := by rw [hk]; rfl
    have e7 : (a.k == 7) = false := by rw [hk]; rfl
    have e8 : (a.k == 8) = false := by rw [hk]; rfl
    have HX : Hid (sameT (n + 1) a b = (a.s == b.s)) := by show _ = _; unfold sameT; rw [if_neg (by rw [← hkb]; simp)]; simp [hk]
    have es : ((bs a.s).toList == (bs b.s).toList) = (a.s == b.s) := by rw [bs_tl9, bs_tl9]
    generalize bs a.s = qa at *
    generalize bs b.s = qb at *
    clear hk hkb hI hJ hl hx eR eQ
    go_enter Tryz.func9, Tryz.ntmps9
    go_wp2_with fail
    go_ret
    exact ⟨ret_bool (by rw [HX.out]), ((Ext.refl _).alloc _).alloc _⟩
  have n1 := hk
  clear hk
  by_cases hk : a.k = 3
  · have e0 : (a.k == 0) = false := by rw [hk]; rfl
    have e2 : (a.k == 2) = false := by rw [hk]; rfl
    have e1 : (a.k == 1) = false := by rw [hk]; rfl
    have e3 : (a.k == 3) = true := by rw [hk]; rfl
    have e4 : (a.k == 4) = false := by rw [hk]; rfl
    have e5 : (a.k == 5) = false := by rw [hk]; rfl
    have e7 : (a.k == 7) = false := by rw [hk]; rfl
    have e8 : (a.k == 8) = false := by rw [hk]; rfl
    have HX : Hid (sameT (n + 1) a b = (a.e == b.e)) := by show _ = _; unfold sameT; rw [if_neg (by rw [← hkb]; simp)]; simp [hk]
    clear hk hkb hI hJ hl hx eR eQ
    go_enter Tryz.func9, Tryz.ntmps9
    go_wp2_with fail
    go_ret
    exact ⟨ret_bool (by rw [HX.out]), ((Ext.refl _).alloc _).alloc _⟩
  have n3 := hk
  clear hk
  by_cases hk : a.k = 4
  · have e0 : (a.k == 0) = false := by rw [hk]; rfl
    have e2 : (a.k == 2) = false := by rw [hk]; rfl
    have e1 : (a.k == 1) = false := by rw [hk]; rfl
    have e3 : (a.k == 3) = false := by rw [hk]; rfl
    have e4 : (a.k == 4) = true := by rw [hk]; rfl
    have e5 : (a.k == 5) = false := by rw [hk]; rfl
    have e7 : (a.k == 7) = false := by rw [hk]; rfl
    have e8 : (a.k == 8) = false := by rw [hk]; rfl
    have HX : Hid (sameT (n + 1) a b = decide (a.r = b.r)) := by show _ = _; unfold sameT; rw [if_neg (by rw [← hkb]; simp)]; simp [hk]
    have g1 := gd_rf
    clear hk hkb hI hJ hl hx
    go_enter Tryz.func9, Tryz.ntmps9
    go_wp2_with fail
    go_ret
    exact ⟨ret_bool (by rw [HX.out]), ((Ext.refl _).alloc _).alloc _⟩
  have n4 := hk
  clear hk
  by_cases hk : a.k = 5
  · have e0 : (a.k == 0) = false := by rw [hk]; rfl
    have e2 : (a.k == 2) = false := by rw [hk]; rfl
    have e1 : (a.k == 1) = false := by rw [hk]; rfl
    have e3 : (a.k == 3) = false := by rw [hk]; rfl
    have e4 : (a.k == 4) = false := by rw [hk]; rfl
    have e5 : (a.k == 5) = true := by rw [hk]; rfl
    have e7 : (a.k == 7) = false := by rw [hk]; rfl
    have e8 : (a.k == 8) = false := by rw [hk]; rfl
    have HX : Hid (sameT (n + 1) a b = (decide (a.r = b.r) && decide (a.q = b.q))) := by show _ = _; unfold sameT; rw [if_neg (by rw [← hkb]; simp)]; simp [hk]
    have g1 := gd_rf
    clear hk hkb hI hJ hl hx
    cases hr : decide (a.r = b.r)
    · rw [hr] at HX eR
      clear hr
      go_enter Tryz.func9, Tryz.ntmps9
      go_wp2_with fail
      go_ret
      exact ⟨ret_bool (by rw [HX.out]; rfl), ((Ext.refl _).alloc _).alloc _⟩
    · rw [hr] at HX eR
      clear hr
      go_enter Tryz.func9, Tryz.ntmps9
      go_wp2_with fail
      go_ret
      exact ⟨ret_bool (by rw [HX.out]; rfl), ((Ext.refl _).alloc _).alloc _⟩
  have n5 := hk
  clear hk
  by_cases hk : a.k = 6
  · have e0 : (a.k == 0) = false := by rw [hk]; rfl
    have e2 : (a.k == 2) = false := by rw [hk]; rfl
    have e1 : (a.k == 1) = false := by rw [hk]; rfl
    have e3 : (a.k == 3) = false := by rw [hk]; rfl
    have e4 : (a.k == 4) = false := by rw [hk]; rfl
    have e5 : (a.k == 5) = false := by rw [hk]; rfl
    have e7 : (a.k == 7) = false := by rw [hk]; rfl
    have e8 : (a.k == 8) = false := by rw [hk]; rfl
    have cP := fun W => xparts_any a pp ln cl W
    have cQ := fun W => xparts_any b qq lm cm W
    rw [ptV_yes (show a.k = 6 ∨ a.k = 7 ∨ a.k = 8 by omega)] at cP
    rw [ptV_yes (show b.k = 6 ∨ b.k = 7 ∨ b.k = 8 by omega)] at cQ
    have HEQ : Hid (∀ V, Ext W V → Calls Tryz.prog 23 #[.slice pp ln cl, .slice qq lm cm, .func (.func 9) #[] #[]] V fun e w' => e = .returned (.bool (allZ (sameT n) a.l b.l)) ∧ Ext V w') := fun V e => equal_any P n a.l b.l pp qq ln cl lm cm V hl hx (hI.ext e) (hJ.ext e)
    have HX : Hid (sameT (n + 1) a b = allZ (sameT n) a.l b.l) := by show _ = _; unfold sameT; rw [if_neg (by rw [← hkb]; simp)]; simp [hk]
    clear hk hkb hI hJ hl hx eR eQ
    go_enter Tryz.func9, Tryz.ntmps9
    go_wp2_with fail
    have HF : Hid (BlkX ((W.alloc (.cells #[.int .i64 a.k, .int .i64 a.n, .string (bs a.s), .int .i64 a.e, .int .i64 a.r.1, .int .i64 a.r.2.1, .bool a.r.2.2.1, .bool a.r.2.2.2, .int .i64 a.q.1, .int .i64 a.q.2.1, .bool a.q.2.2.1, .bool a.q.2.2.2, .slice pp ln cl] 26)).alloc (.cells #[.int .i64 b.k, .int .i64 b.n, .string (bs b.s), .int .i64 b.e, .int .i64 b.r.1, .int .i64 b.r.2.1, .bool b.r.2.2.1, .bool b.r.2.2.2, .int .i64 b.q.1, .int .i64 b.q.2.1, .bool b.q.2.2.1, .bool b.q.2.2.2, .slice qq lm cm] 26)) W.heap.size a (.slice pp ln cl) ∧ BlkX ((W.alloc (.cells #[.int .i64 a.k, .int .i64 a.n, .string (bs a.s), .int .i64 a.e, .int .i64 a.r.1, .int .i64 a.r.2.1, .bool a.r.2.2.1, .bool a.r.2.2.2, .int .i64 a.q.1, .int .i64 a.q.2.1, .bool a.q.2.2.1, .bool a.q.2.2.2, .slice pp ln cl] 26)).alloc (.cells #[.int .i64 b.k, .int .i64 b.n, .string (bs b.s), .int .i64 b.e, .int .i64 b.r.1, .int .i64 b.r.2.1, .bool b.r.2.2.1, .bool b.r.2.2.2, .int .i64 b.q.1, .int .i64 b.q.2.1, .bool b.q.2.2.1, .bool b.q.2.2.2, .slice qq lm cm] 26)) (W.heap.size + 1) b (.slice qq lm cm) ∧ Ext W ((W.alloc (.cells #[.int .i64 a.k, .int .i64 a.n, .string (bs a.s), .int .i64 a.e, .int .i64 a.r.1, .int .i64 a.r.2.1, .bool a.r.2.2.1, .bool a.r.2.2.2, .int .i64 a.q.1, .int .i64 a.q.2.1, .bool a.q.2.2.1, .bool a.q.2.2.2, .slice pp ln cl] 26)).alloc (.cells #[.int .i64 b.k, .int .i64 b.n, .string (bs b.s), .int .i64 b.e, .int .i64 b.r.1, .int .i64 b.r.2.1, .bool b.r.2.2.1, .bool b.r.2.2.2, .int .i64 b.q.1, .int .i64 b.q.2.1, .bool b.q.2.2.1, .bool b.q.2.2.2, .slice qq lm cm] 26))) := ⟨blk13_top rfl ((Ext.refl _).alloc _), blk13_top (by simp) (Ext.refl _), ((Ext.refl _).alloc _).alloc _⟩
    generalize ((W.alloc (.cells #[.int .i64 a.k, .int .i64 a.n, .string (bs a.s), .int .i64 a.e, .int .i64 a.r.1, .int .i64 a.r.2.1, .bool a.r.2.2.1, .bool a.r.2.2.2, .int .i64 a.q.1, .int .i64 a.q.2.1, .bool a.q.2.2.1, .bool a.q.2.2.2, .slice pp ln cl] 26)).alloc (.cells #[.int .i64 b.k, .int .i64 b.n, .string (bs b.s), .int .i64 b.e, .int .i64 b.r.1, .int .i64 b.r.2.1, .bool b.r.2.2.1, .bool b.r.2.2.2, .int .i64 b.q.1, .int .i64 b.q.2.1, .bool b.q.2.2.1, .bool b.q.2.2.2, .slice qq lm cm] 26)) = W2 at *
    have mkS : Hid (∀ V, Ext W2 V → V.cell? ⟨W.heap.size, 0, none⟩ = some (.int .i64 a.k) ∧ V.cell? ⟨W.heap.size, 1, none⟩ = some (.int .i64 a.n) ∧ V.cell? ⟨W.heap.size, 2, none⟩ = some (.string (bs a.s)) ∧ V.cell? ⟨W.heap.size, 3, none⟩ = some (.int .i64 a.e) ∧ V.cell? ⟨W.heap.size, 4, none⟩ = some (.int .i64 a.r.1) ∧ V.cell? ⟨W.heap.size, 5, none⟩ = some (.int .i64 a.r.2.1) ∧ V.cell? ⟨W.heap.size, 6, none⟩ = some (.bool a.r.2.2.1) ∧ V.cell? ⟨W.heap.size, 7, none⟩ = some (.bool a.r.2.2.2) ∧ V.cell? ⟨W.heap.size, 8, none⟩ = some (.int .i64 a.q.1) ∧ V.cell? ⟨W.heap.size, 9, none⟩ = some (.int .i64 a.q.2.1) ∧ V.cell? ⟨W.heap.size, 10, none⟩ = some (.bool a.q.2.2.1) ∧ V.cell? ⟨W.heap.size, 11, none⟩ = some (.bool a.q.2.2.2) ∧ V.cell? ⟨W.heap.size, 12, none⟩ = some (.slice pp ln cl) ∧ V.cell? ⟨W.heap.size + 1, 0, none⟩ = some (.int .i64 b.k) ∧ V.cell? ⟨W.heap.size + 1, 1, none⟩ = some (.int .i64 b.n) ∧ V.cell? ⟨W.heap.size + 1, 2, none⟩ = some (.string (bs b.s)) ∧ V.cell? ⟨W.heap.size + 1, 3, none⟩ = some (.int .i64 b.e) ∧ V.cell? ⟨W.heap.size + 1, 4, none⟩ = some (.int .i64 b.r.1) ∧ V.cell? ⟨W.heap.size + 1, 5, none⟩ = some (.int .i64 b.r.2.1) ∧ V.cell? ⟨W.heap.size + 1, 6, none⟩ = some (.bool b.r.2.2.1) ∧ V.cell? ⟨W.heap.size + 1, 7, none⟩ = some (.bool b.r.2.2.2) ∧ V.cell? ⟨W.heap.size + 1, 8, none⟩ = some (.int .i64 b.q.1) ∧ V.cell? ⟨W.heap.size + 1, 9, none⟩ = some (.int .i64 b.q.2.1) ∧ V.cell? ⟨W.heap.size + 1, 10, none⟩ = some (.bool b.q.2.2.1) ∧ V.cell? ⟨W.heap.size + 1, 11, none⟩ = some (.bool b.q.2.2.2) ∧ V.cell? ⟨W.heap.size + 1, 12, none⟩ = some (.slice qq lm cm)) := fun V e => by
      obtain ⟨qz, ⟨k0, k1, k2, k3, k4, k5, k6, k7, k8, k9, k10, k11, k12⟩, gz⟩ := HF.out.1.ext e
      obtain ⟨qy, ⟨m0, m1, m2, m3, m4, m5, m6, m7, m8, m9, m10, m11, m12⟩, gy⟩ := HF.out.2.1.ext e
      exact ⟨k0, k1, k2, k3, k4, k5, k6, k7, k8, k9, k10, k11, k12, m0, m1, m2, m3, m4, m5, m6, m7, m8, m9, m10, m11, m12⟩
    refine wp_region_held_drew (S := (fun V => V.cell? ⟨W.heap.size, 0, none⟩ = some (.int .i64 a.k) ∧ V.cell? ⟨W.heap.size, 1, none⟩ = some (.int .i64 a.n) ∧ V.cell? ⟨W.heap.size, 2, none⟩ = some (.string (bs a.s)) ∧ V.cell? ⟨W.heap.size, 3, none⟩ = some (.int .i64 a.e) ∧ V.cell? ⟨W.heap.size, 4, none⟩ = some (.int .i64 a.r.1) ∧ V.cell? ⟨W.heap.size, 5, none⟩ = some (.int .i64 a.r.2.1) ∧ V.cell? ⟨W.heap.size, 6, none⟩ = some (.bool a.r.2.2.1) ∧ V.cell? ⟨W.heap.size, 7, none⟩ = some (.bool a.r.2.2.2) ∧ V.cell? ⟨W.heap.size, 8, none⟩ = some (.int .i64 a.q.1) ∧ V.cell? ⟨W.heap.size, 9, none⟩ = some (.int .i64 a.q.2.1) ∧ V.cell? ⟨W.heap.size, 10, none⟩ = some (.bool a.q.2.2.1) ∧ V.cell? ⟨W.heap.size, 11, none⟩ = some (.bool a.q.2.2.2) ∧ V.cell? ⟨W.heap.size, 12, none⟩ = some (.slice pp ln cl) ∧ V.cell? ⟨W.heap.size + 1, 0, none⟩ = some (.int .i64 b.k) ∧ V.cell? ⟨W.heap.size + 1, 1, none⟩ = some (.int .i64 b.n) ∧ V.cell? ⟨W.heap.size + 1, 2, none⟩ = some (.string (bs b.s)) ∧ V.cell? ⟨W.heap.size + 1, 3, none⟩ = some (.int .i64 b.e) ∧ V.cell? ⟨W.heap.size + 1, 4, none⟩ = some (.int .i64 b.r.1) ∧ V.cell? ⟨W.heap.size + 1, 5, none⟩ = some (.int .i64 b.r.2.1) ∧ V.cell? ⟨W.heap.size + 1, 6, none⟩ = some (.bool b.r.2.2.1) ∧ V.cell? ⟨W.heap.size + 1, 7, none⟩ = some (.bool b.r.2.2.2) ∧ V.cell? ⟨W.heap.size + 1, 8, none⟩ = some (.int .i64 b.q.1) ∧ V.cell? ⟨W.heap.size + 1, 9, none⟩ = some (.int .i64 b.q.2.1) ∧ V.cell? ⟨W.heap.size + 1, 10, none⟩ = some (.bool b.q.2.2.1) ∧ V.cell? ⟨W.heap.size + 1, 11, none⟩ = some (.bool b.q.2.2.2) ∧ V.cell? ⟨W.heap.size + 1, 12, none⟩ = some (.slice qq lm cm))) (by kernel_rfl) ?_ (fun hHeld0 => ?_)
    · (refine mkS.out _ ?_; ((with_reducible (repeat (first | assumption | exact Ext.refl _ | apply Ext.alloc | apply Ext.drew | apply Ext.drewN))); done))
    refine wpAnyH_take (i := 0) (oi := { dst := some 63, op := Op.load 26 (Operand.tmp 2), type := 26, pos := "parse.go:93", after := #[], guard := none }) (v := ?_) rfl (by kernel_rfl) (by kernel_rfl) (by kernel_rfl) (fun _ _ _ h => h) (Or.inl ⟨by rfl, ?_⟩) (by assumption) ?_
    rotate_left
    · intro w hSw; (try dsimp only at hSw); first | (go_simp; done) | (go_simp; with_reducible rfl)
    try simp only [Act.put, List.setIfInBounds_toArray, List.set_cons_zero, List.set_cons_succ]
    refine wpAnyH_take (i := 2) (oi := { dst := some 65, op := Op.load 26 (Operand.tmp 3), type := 26, pos := "parse.go:93", after := #[], guard := none }) (v := ?_) rfl (by kernel_rfl) (by kernel_rfl) (by kernel_rfl) (fun _ _ _ h => h) (Or.inl ⟨by rfl, ?_⟩) (by assumption) ?_
    rotate_left
    · intro w hSw; (try dsimp only at hSw); first | (go_simp; done) | (go_simp; with_reducible rfl)
    try simp only [Act.put, List.setIfInBounds_toArray, List.set_cons_zero, List.set_cons_succ]
    refine wpAnyH_ready (rs := [1]) (by kernel_rfl) (by simp) ?_
    refine AllReadyH.cons (o := { dst := some 64, op := Op.call { callee := Callee.value (Operand.func 24), args := #[Operand.tmp 63], argTypes := #[26] }, type := 24, pos := "parse.go:93", after := #[{ on := 0, ground := Ground.data }], guard := none }) rfl (fun K hK => ?_) AllReadyH.nil
    go_simp
    (go_at_call 24; refine Calls.mono (cP _) ?_; rintro e y1 ⟨rfl, E1⟩; have X1 : Ext W2 y1 := Ext.trans (by with_reducible repeat (first | assumption | exact Ext.refl _ | apply Ext.alloc | apply Ext.drew | apply Ext.drewN)) E1)
    try go_wp2_with fail
    refine hK.out _ _ ?_ (fun hHeld1 => ?_)
    · (try dsimp only); (refine mkS.out _ ?_; ((with_reducible (repeat (first | assumption | exact Ext.refl _ | apply Ext.alloc | apply Ext.drew | apply Ext.drewN))); done))
    clear hK K hHeld0
    try simp only [Act.put, List.setIfInBounds_toArray, List.set_cons_zero, List.set_cons_succ]
    refine wpAnyH_ready (rs := [3]) (by kernel_rfl) (by simp) ?_
    refine AllReadyH.cons (o := { dst := some 66, op := Op.call { callee := Callee.value (Operand.func 24), args := #[Operand.tmp 65], argTypes := #[26] }, type := 24, pos := "parse.go:93", after := #[{ on := 2, ground := Ground.data }, { on := 1, ground := Ground.chain }], guard := none }) rfl (fun K hK => ?_) AllReadyH.nil
    go_simp
    (go_at_call 24; refine Calls.mono (cQ _) ?_; rintro e y2 ⟨rfl, E2⟩; have X2 : Ext W2 y2 := Ext.trans (by with_reducible repeat (first | assumption | exact Ext.refl _ | apply Ext.alloc | apply Ext.drew | apply Ext.drewN)) E2)
    try go_wp2_with fail
    refine hK.out _ _ ?_ (fun hHeld2 => ?_)
    · (try dsimp only); (refine mkS.out _ ?_; ((with_reducible (repeat (first | assumption | exact Ext.refl _ | apply Ext.alloc | apply Ext.drew | apply Ext.drewN))); done))
    clear hK K hHeld1
    try simp only [Act.put, List.setIfInBounds_toArray, List.set_cons_zero, List.set_cons_succ]
    refine wpAnyH_ready (rs := [4]) (by kernel_rfl) (by simp) ?_
    refine AllReadyH.cons (o := { dst := some 67, op := Op.call { callee := Callee.value (Operand.func 23), args := #[Operand.tmp 64, Operand.tmp 66, Operand.func 9], argTypes := #[24, 24, 30] }, type := 4, pos := "parse.go:93", after := #[{ on := 1, ground := Ground.data }, { on := 3, ground := Ground.data }, { on := 3, ground := Ground.chain }], guard := none }) rfl (fun K hK => ?_) AllReadyH.nil
    go_simp
    (go_at_call 23; refine Calls.mono (HEQ.out _ (HF.out.2.2.trans (by with_reducible repeat (first | assumption | exact Ext.refl _ | apply Ext.alloc | apply Ext.drew | apply Ext.drewN)))) ?_; rintro e y3 ⟨rfl, E3⟩; have X3 : Ext W2 y3 := Ext.trans (by with_reducible repeat (first | assumption | exact Ext.refl _ | apply Ext.alloc | apply Ext.drew | apply Ext.drewN)) E3)
    try go_wp2_with fail
    refine hK.out _ _ ?_ (fun hHeld3 => ?_)
    · (try dsimp only); (refine mkS.out _ ?_; ((with_reducible (repeat (first | assumption | exact Ext.refl _ | apply Ext.alloc | apply Ext.drew | apply Ext.drewN))); done))
    clear hK K hHeld2
    try simp only [Act.put, List.setIfInBounds_toArray, List.set_cons_zero, List.set_cons_succ]
    refine wpAnyH_take (i := 5) (oi := { dst := some 4, op := Op.assign (Operand.tmp 67), type := 4, pos := "parse.go:93", after := #[{ on := 4, ground := Ground.data }, { on := 4, ground := Ground.chain }, { on := 0, ground := Ground.phase }, { on := 1, ground := Ground.phase }, { on := 2, ground := Ground.phase }, { on := 3, ground := Ground.phase }, { on := 4, ground := Ground.phase }], guard := none }) (v := ?_) rfl (by kernel_rfl) (by kernel_rfl) (by kernel_rfl) (fun _ _ _ h => h) (Or.inl ⟨by rfl, ?_⟩) (by assumption) ?_
    rotate_left
    · intro w hSw; (try dsimp only at hSw); first | (go_simp; done) | (go_simp; with_reducible rfl)
    try simp only [Act.put, List.setIfInBounds_toArray, List.set_cons_zero, List.set_cons_succ]
    refine wpAnyH_done (by kernel_rfl) ?_ _
    go_wp2_with fail
    go_ret
    exact ⟨ret_bool (by rw [HX.out]), HF.out.2.2.trans (by assumption)⟩
  have n6 := hk
  clear hk
  by_cases hk : a.k = 7
  · have e0 : (a.k == 0) = false := by rw [hk]; rfl
    have e2 : (a.k == 2) = false := by rw [hk]; rfl
    have e1 : (a.k == 1) = false := by rw [hk]; rfl
    have e3 : (a.k == 3) = false := by rw [hk]; rfl
    have e4 : (a.k == 4) = false := by rw [hk]; rfl
    have e5 : (a.k == 5) = false := by rw [hk]; rfl
    have e7 : (a.k == 7) = true := by rw [hk]; rfl
    have e8 : (a.k == 8) = false := by rw [hk]; rfl
    have cP := fun W => xparts_any a pp ln cl W
    have cQ := fun W => xparts_any b qq lm cm W
    rw [ptV_yes (show a.k = 6 ∨ a.k = 7 ∨ a.k = 8 by omega)] at cP
    rw [ptV_yes (show b.k = 6 ∨ b.k = 7 ∨ b.k = 8 by omega)] at cQ
    have HEQ : Hid (∀ V, Ext W V → Calls Tryz.prog 23 #[.slice pp ln cl, .slice qq lm cm, .func (.func 9) #[] #[]] V fun e w' => e = .returned (.bool (allZ (sameT n) a.l b.l)) ∧ Ext V w') := fun V e => equal_any P n a.l b.l pp qq ln cl lm cm V hl hx (hI.ext e) (hJ.ext e)
    by_cases hns : ¬ a.s = b.s
    · have hs := hns
      clear hns
      have es : ((bs a.s).toList == (bs b.s).toList) = false := by rw [bs_tl9, bs_tl9]; simpa using hs
      have HX : Hid (sameT (n + 1) a b = false) := by show _ = _; unfold sameT; rw [if_neg (by rw [← hkb]; simp)]; simp [hk, hs]
      generalize bs a.s = qa at *
      generalize bs b.s = qb at *
      clear hk hkb hI hJ hl hx hs eR eQ cP cQ
      go_enter Tryz.func9, Tryz.ntmps9
      go_wp2_with fail
      go_ret
      exact ⟨ret_bool (by rw [HX.out]), ((Ext.refl _).alloc _).alloc _⟩
    have hs : a.s = b.s := Decidable.not_not.1 hns
    clear hns
    have es : ((bs a.s).toList == (bs b.s).toList) = true := by rw [bs_tl9, bs_tl9]; simpa using hs
    have HX : Hid (sameT (n + 1) a b = allZ (sameT n) a.l b.l) := by show _ = _; unfold sameT; rw [if_neg (by rw [← hkb]; simp)]; simp [hk, hs]
    clear hk hkb hI hJ hl hx hs eR eQ
    go_enter Tryz.func9, Tryz.ntmps9
    go_wp2_with fail
    have HF : Hid (BlkX ((W.alloc (.cells #[.int .i64 a.k, .int .i64 a.n, .string (bs a.s), .int .i64 a.e, .int .i64 a.r.1, .int .i64 a.r.2.1, .bool a.r.2.2.1, .bool a.r.2.2.2, .int .i64 a.q.1, .int .i64 a.q.2.1, .bool a.q.2.2.1, .bool a.q.2.2.2, .slice pp ln cl] 26)).alloc (.cells #[.int .i64 b.k, .int .i64 b.n, .string (bs b.s), .int .i64 b.e, .int .i64 b.r.1, .int .i64 b.r.2.1, .bool b.r.2.2.1, .bool b.r.2.2.2, .int .i64 b.q.1, .int .i64 b.q.2.1, .bool b.q.2.2.1, .bool b.q.2.2.2, .slice qq lm cm] 26)) W.heap.size a (.slice pp ln cl) ∧ BlkX ((W.alloc (.cells #[.int .i64 a.k, .int .i64 a.n, .string (bs a.s), .int .i64 a.e, .int .i64 a.r.1, .int .i64 a.r.2.1, .bool a.r.2.2.1, .bool a.r.2.2.2, .int .i64 a.q.1, .int .i64 a.q.2.1, .bool a.q.2.2.1, .bool a.q.2.2.2, .slice pp ln cl] 26)).alloc (.cells #[.int .i64 b.k, .int .i64 b.n, .string (bs b.s), .int .i64 b.e, .int .i64 b.r.1, .int .i64 b.r.2.1, .bool b.r.2.2.1, .bool b.r.2.2.2, .int .i64 b.q.1, .int .i64 b.q.2.1, .bool b.q.2.2.1, .bool b.q.2.2.2, .slice qq lm cm] 26)) (W.heap.size + 1) b (.slice qq lm cm) ∧ Ext W ((W.alloc (.cells #[.int .i64 a.k, .int .i64 a.n, .string (bs a.s), .int .i64 a.e, .int .i64 a.r.1, .int .i64 a.r.2.1, .bool a.r.2.2.1, .bool a.r.2.2.2, .int .i64 a.q.1, .int .i64 a.q.2.1, .bool a.q.2.2.1, .bool a.q.2.2.2, .slice pp ln cl] 26)).alloc (.cells #[.int .i64 b.k, .int .i64 b.n, .string (bs b.s), .int .i64 b.e, .int .i64 b.r.1, .int .i64 b.r.2.1, .bool b.r.2.2.1, .bool b.r.2.2.2, .int .i64 b.q.1, .int .i64 b.q.2.1, .bool b.q.2.2.1, .bool b.q.2.2.2, .slice qq lm cm] 26))) := ⟨blk13_top rfl ((Ext.refl _).alloc _), blk13_top (by simp) (Ext.refl _), ((Ext.refl _).alloc _).alloc _⟩
    generalize ((W.alloc (.cells #[.int .i64 a.k, .int .i64 a.n, .string (bs a.s), .int .i64 a.e, .int .i64 a.r.1, .int .i64 a.r.2.1, .bool a.r.2.2.1, .bool a.r.2.2.2, .int .i64 a.q.1, .int .i64 a.q.2.1, .bool a.q.2.2.1, .bool a.q.2.2.2, .slice pp ln cl] 26)).alloc (.cells #[.int .i64 b.k, .int .i64 b.n, .string (bs b.s), .int .i64 b.e, .int .i64 b.r.1, .int .i64 b.r.2.1, .bool b.r.2.2.1, .bool b.r.2.2.2, .int .i64 b.q.1, .int .i64 b.q.2.1, .bool b.q.2.2.1, .bool b.q.2.2.2, .slice qq lm cm] 26)) = W2 at *
    have mkS : Hid (∀ V, Ext W2 V → V.cell? ⟨W.heap.size, 0, none⟩ = some (.int .i64 a.k) ∧ V.cell? ⟨W.heap.size, 1, none⟩ = some (.int .i64 a.n) ∧ V.cell? ⟨W.heap.size, 2, none⟩ = some (.string (bs a.s)) ∧ V.cell? ⟨W.heap.size, 3, none⟩ = some (.int .i64 a.e) ∧ V.cell? ⟨W.heap.size, 4, none⟩ = some (.int .i64 a.r.1) ∧ V.cell? ⟨W.heap.size, 5, none⟩ = some (.int .i64 a.r.2.1) ∧ V.cell? ⟨W.heap.size, 6, none⟩ = some (.bool a.r.2.2.1) ∧ V.cell? ⟨W.heap.size, 7, none⟩ = some (.bool a.r.2.2.2) ∧ V.cell? ⟨W.heap.size, 8, none⟩ = some (.int .i64 a.q.1) ∧ V.cell? ⟨W.heap.size, 9, none⟩ = some (.int .i64 a.q.2.1) ∧ V.cell? ⟨W.heap.size, 10, none⟩ = some (.bool a.q.2.2.1) ∧ V.cell? ⟨W.heap.size, 11, none⟩ = some (.bool a.q.2.2.2) ∧ V.cell? ⟨W.heap.size, 12, none⟩ = some (.slice pp ln cl) ∧ V.cell? ⟨W.heap.size + 1, 0, none⟩ = some (.int .i64 b.k) ∧ V.cell? ⟨W.heap.size + 1, 1, none⟩ = some (.int .i64 b.n) ∧ V.cell? ⟨W.heap.size + 1, 2, none⟩ = some (.string (bs b.s)) ∧ V.cell? ⟨W.heap.size + 1, 3, none⟩ = some (.int .i64 b.e) ∧ V.cell? ⟨W.heap.size + 1, 4, none⟩ = some (.int .i64 b.r.1) ∧ V.cell? ⟨W.heap.size + 1, 5, none⟩ = some (.int .i64 b.r.2.1) ∧ V.cell? ⟨W.heap.size + 1, 6, none⟩ = some (.bool b.r.2.2.1) ∧ V.cell? ⟨W.heap.size + 1, 7, none⟩ = some (.bool b.r.2.2.2) ∧ V.cell? ⟨W.heap.size + 1, 8, none⟩ = some (.int .i64 b.q.1) ∧ V.cell? ⟨W.heap.size + 1, 9, none⟩ = some (.int .i64 b.q.2.1) ∧ V.cell? ⟨W.heap.size + 1, 10, none⟩ = some (.bool b.q.2.2.1) ∧ V.cell? ⟨W.heap.size + 1, 11, none⟩ = some (.bool b.q.2.2.2) ∧ V.cell? ⟨W.heap.size + 1, 12, none⟩ = some (.slice qq lm cm)) := fun V e => by
      obtain ⟨qz, ⟨k0, k1, k2, k3, k4, k5, k6, k7, k8, k9, k10, k11, k12⟩, gz⟩ := HF.out.1.ext e
      obtain ⟨qy, ⟨m0, m1, m2, m3, m4, m5, m6, m7, m8, m9, m10, m11, m12⟩, gy⟩ := HF.out.2.1.ext e
      exact ⟨k0, k1, k2, k3, k4, k5, k6, k7, k8, k9, k10, k11, k12, m0, m1, m2, m3, m4, m5, m6, m7, m8, m9, m10, m11, m12⟩
    refine wp_region_held_drew (S := (fun V => V.cell? ⟨W.heap.size, 0, none⟩ = some (.int .i64 a.k) ∧ V.cell? ⟨W.heap.size, 1, none⟩ = some (.int .i64 a.n) ∧ V.cell? ⟨W.heap.size, 2, none⟩ = some (.string (bs a.s)) ∧ V.cell? ⟨W.heap.size, 3, none⟩ = some (.int .i64 a.e) ∧ V.cell? ⟨W.heap.size, 4, none⟩ = some (.int .i64 a.r.1) ∧ V.cell? ⟨W.heap.size, 5, none⟩ = some (.int .i64 a.r.2.1) ∧ V.cell? ⟨W.heap.size, 6, none⟩ = some (.bool a.r.2.2.1) ∧ V.cell? ⟨W.heap.size, 7, none⟩ = some (.bool a.r.2.2.2) ∧ V.cell? ⟨W.heap.size, 8, none⟩ = some (.int .i64 a.q.1) ∧ V.cell? ⟨W.heap.size, 9, none⟩ = some (.int .i64 a.q.2.1) ∧ V.cell? ⟨W.heap.size, 10, none⟩ = some (.bool a.q.2.2.1) ∧ V.cell? ⟨W.heap.size, 11, none⟩ = some (.bool a.q.2.2.2) ∧ V.cell? ⟨W.heap.size, 12, none⟩ = some (.slice pp ln cl) ∧ V.cell? ⟨W.heap.size + 1, 0, none⟩ = some (.int .i64 b.k) ∧ V.cell? ⟨W.heap.size + 1, 1, none⟩ = some (.int .i64 b.n) ∧ V.cell? ⟨W.heap.size + 1, 2, none⟩ = some (.string (bs b.s)) ∧ V.cell? ⟨W.heap.size + 1, 3, none⟩ = some (.int .i64 b.e) ∧ V.cell? ⟨W.heap.size + 1, 4, none⟩ = some (.int .i64 b.r.1) ∧ V.cell? ⟨W.heap.size + 1, 5, none⟩ = some (.int .i64 b.r.2.1) ∧ V.cell? ⟨W.heap.size + 1, 6, none⟩ = some (.bool b.r.2.2.1) ∧ V.cell? ⟨W.heap.size + 1, 7, none⟩ = some (.bool b.r.2.2.2) ∧ V.cell? ⟨W.heap.size + 1, 8, none⟩ = some (.int .i64 b.q.1) ∧ V.cell? ⟨W.heap.size + 1, 9, none⟩ = some (.int .i64 b.q.2.1) ∧ V.cell? ⟨W.heap.size + 1, 10, none⟩ = some (.bool b.q.2.2.1) ∧ V.cell? ⟨W.heap.size + 1, 11, none⟩ = some (.bool b.q.2.2.2) ∧ V.cell? ⟨W.heap.size + 1, 12, none⟩ = some (.slice qq lm cm))) (by kernel_rfl) ?_ (fun hHeld0 => ?_)
    · (refine mkS.out _ ?_; ((with_reducible (repeat (first | assumption | exact Ext.refl _ | apply Ext.alloc | apply Ext.drew | apply Ext.drewN))); done))
    refine wpAnyH_take (i := 0) (oi := { dst := some 63, op := Op.load 26 (Operand.tmp 2), type := 26, pos := "parse.go:93", after := #[], guard := none }) (v := ?_) rfl (by kernel_rfl) (by kernel_rfl) (by kernel_rfl) (fun _ _ _ h => h) (Or.inl ⟨by rfl, ?_⟩) (by assumption) ?_
    rotate_left
    · intro w hSw; (try dsimp only at hSw); first | (go_simp; done) | (go_simp; with_reducible rfl)
    try simp only [Act.put, List.setIfInBounds_toArray, List.set_cons_zero, List.set_cons_succ]
    refine wpAnyH_take (i := 2) (oi := { dst := some 65, op := Op.load 26 (Operand.tmp 3), type := 26, pos := "parse.go:93", after := #[], guard := none }) (v := ?_) rfl (by kernel_rfl) (by kernel_rfl) (by kernel_rfl) (fun _ _ _ h => h) (Or.inl ⟨by rfl, ?_⟩) (by assumption) ?_
    rotate_left
    · intro w hSw; (try dsimp only at hSw); first | (go_simp; done) | (go_simp; with_reducible rfl)
    try simp only [Act.put, List.setIfInBounds_toArray, List.set_cons_zero, List.set_cons_succ]
    refine wpAnyH_ready (rs := [1]) (by kernel_rfl) (by simp) ?_
    refine AllReadyH.cons (o := { dst := some 64, op := Op.call { callee := Callee.value (Operand.func 24), args := #[Operand.tmp 63], argTypes := #[26] }, type := 24, pos := "parse.go:93", after := #[{ on := 0, ground := Ground.data }], guard := none }) rfl (fun K hK => ?_) AllReadyH.nil
    go_simp
    (go_at_call 24; refine Calls.mono (cP _) ?_; rintro e y1 ⟨rfl, E1⟩; have X1 : Ext W2 y1 := Ext.trans (by with_reducible repeat (first | assumption | exact Ext.refl _ | apply Ext.alloc | apply Ext.drew | apply Ext.drewN)) E1)
    try go_wp2_with fail
    refine hK.out _ _ ?_ (fun hHeld1 => ?_)
    · (try dsimp only); (refine mkS.out _ ?_; ((with_reducible (repeat (first | assumption | exact Ext.refl _ | apply Ext.alloc | apply Ext.drew | apply Ext.drewN))); done))
    clear hK K hHeld0
    try simp only [Act.put, List.setIfInBounds_toArray, List.set_cons_zero, List.set_cons_succ]
    refine wpAnyH_ready (rs := [3]) (by kernel_rfl) (by simp) ?_
    refine AllReadyH.cons (o := { dst := some 66, op := Op.call { callee := Callee.value (Operand.func 24), args := #[Operand.tmp 65], argTypes := #[26] }, type := 24, pos := "parse.go:93", after := #[{ on := 2, ground := Ground.data }, { on := 1, ground := Ground.chain }], guard := none }) rfl (fun K hK => ?_) AllReadyH.nil
    go_simp
    (go_at_call 24; refine Calls.mono (cQ _) ?_; rintro e y2 ⟨rfl, E2⟩; have X2 : Ext W2 y2 := Ext.trans (by with_reducible repeat (first | assumption | exact Ext.refl _ | apply Ext.alloc | apply Ext.drew | apply Ext.drewN)) E2)
    try go_wp2_with fail
    refine hK.out _ _ ?_ (fun hHeld2 => ?_)
    · (try dsimp only); (refine mkS.out _ ?_; ((with_reducible (repeat (first | assumption | exact Ext.refl _ | apply Ext.alloc | apply Ext.drew | apply Ext.drewN))); done))
    clear hK K hHeld1
    try simp only [Act.put, List.setIfInBounds_toArray, List.set_cons_zero, List.set_cons_succ]
    refine wpAnyH_ready (rs := [4]) (by kernel_rfl) (by simp) ?_
    refine AllReadyH.cons (o := { dst := some 67, op := Op.call { callee := Callee.value (Operand.func 23), args := #[Operand.tmp 64, Operand.tmp 66, Operand.func 9], argTypes := #[24, 24, 30] }, type := 4, pos := "parse.go:93", after := #[{ on := 1, ground := Ground.data }, { on := 3, ground := Ground.data }, { on := 3, ground := Ground.chain }], guard := none }) rfl (fun K hK => ?_) AllReadyH.nil
    go_simp
    (go_at_call 23; refine Calls.mono (HEQ.out _ (HF.out.2.2.trans (by with_reducible repeat (first | assumption | exact Ext.refl _ | apply Ext.alloc | apply Ext.drew | apply Ext.drewN)))) ?_; rintro e y3 ⟨rfl, E3⟩; have X3 : Ext W2 y3 := Ext.trans (by with_reducible repeat (first | assumption | exact Ext.refl _ | apply Ext.alloc | apply Ext.drew | apply Ext.drewN)) E3)
    try go_wp2_with fail
    refine hK.out _ _ ?_ (fun hHeld3 => ?_)
    · (try dsimp only); (refine mkS.out _ ?_; ((with_reducible (repeat (first | assumption | exact Ext.refl _ | apply Ext.alloc | apply Ext.drew | apply Ext.drewN))); done))
    clear hK K hHeld2
    try simp only [Act.put, List.setIfInBounds_toArray, List.set_cons_zero, List.set_cons_succ]
    refine wpAnyH_take (i := 5) (oi := { dst := some 4, op := Op.assign (Operand.tmp 67), type := 4, pos := "parse.go:93", after := #[{ on := 4, ground := Ground.data }, { on := 4, ground := Ground.chain }, { on := 0, ground := Ground.phase }, { on := 1, ground := Ground.phase }, { on := 2, ground := Ground.phase }, { on := 3, ground := Ground.phase }, { on := 4, ground := Ground.phase }], guard := none }) (v := ?_) rfl (by kernel_rfl) (by kernel_rfl) (by kernel_rfl) (fun _ _ _ h => h) (Or.inl ⟨by rfl, ?_⟩) (by assumption) ?_
    rotate_left
    · intro w hSw; (try dsimp only at hSw); first | (go_simp; done) | (go_simp; with_reducible rfl)
    try simp only [Act.put, List.setIfInBounds_toArray, List.set_cons_zero, List.set_cons_succ]
    refine wpAnyH_done (by kernel_rfl) ?_ _
    go_wp2_with fail
    go_ret
    exact ⟨ret_bool (by rw [HX.out]), HF.out.2.2.trans (by assumption)⟩
  have n7 := hk
  clear hk
  by_cases hk : a.k = 8
  · have e0 : (a.k == 0) = false := by rw [hk]; rfl
    have e2 : (a.k == 2) = false := by rw [hk]; rfl
    have e1 : (a.k == 1) = false := by rw [hk]; rfl
    have e3 : (a.k == 3) = false := by rw [hk]; rfl
    have e4 : (a.k == 4) = false := by rw [hk]; rfl
    have e5 : (a.k == 5) = false := by rw [hk]; rfl
    have e7 : (a.k == 7) = false := by rw [hk]; rfl
    have e8 : (a.k == 8) = true := by rw [hk]; rfl
    have cP := fun W => xparts_any a pp ln cl W
    have cQ := fun W => xparts_any b qq lm cm W
    rw [ptV_yes (show a.k = 6 ∨ a.k = 7 ∨ a.k = 8 by omega)] at cP
    rw [ptV_yes (show b.k = 6 ∨ b.k = 7 ∨ b.k = 8 by omega)] at cQ
    have HEQ : Hid (∀ V, Ext W V → Calls Tryz.prog 23 #[.slice pp ln cl, .slice qq lm cm, .func (.func 9) #[] #[]] V fun e w' => e = .returned (.bool (allZ (sameT n) a.l b.l)) ∧ Ext V w') := fun V e => equal_any P n a.l b.l pp qq ln cl lm cm V hl hx (hI.ext e) (hJ.ext e)
    by_cases hns : ¬ a.s = b.s
    · have hs := hns
      clear hns
      have es : ((bs a.s).toList == (bs b.s).toList) = false := by rw [bs_tl9, bs_tl9]; simpa using hs
      have HX : Hid (sameT (n + 1) a b = false) := by show _ = _; unfold sameT; rw [if_neg (by rw [← hkb]; simp)]; simp [hk, hs]
      generalize bs a.s = qa at *
      generalize bs b.s = qb at *
      clear hk hkb hI hJ hl hx hs eR eQ cP cQ
      go_enter Tryz.func9, Tryz.ntmps9
      go_wp2_with fail
      go_ret
      exact ⟨ret_bool (by rw [HX.out]), ((Ext.refl _).alloc _).alloc _⟩
    have hs : a.s = b.s := Decidable.not_not.1 hns
    clear hns
    have es : ((bs a.s).toList == (bs b.s).toList) = true := by rw [bs_tl9, bs_tl9]; simpa using hs
    have HX : Hid (sameT (n + 1) a b = allZ (sameT n) a.l b.l) := by show _ = _; unfold sameT; rw [if_neg (by rw [← hkb]; simp)]; simp [hk, hs]
    clear hk hkb hI hJ hl hx hs eR eQ
    go_enter Tryz.func9, Tryz.ntmps9
    go_wp2_with fail
    have HF : Hid (BlkX ((W.alloc (.cells #[.int .i64 a.k, .int .i64 a.n, .string (bs a.s), .int .i64 a.e, .int .i64 a.r.1, .int .i64 a.r.2.1, .bool a.r.2.2.1, .bool a.r.2.2.2, .int .i64 a.q.1, .int .i64 a.q.2.1, .bool a.q.2.2.1, .bool a.q.2.2.2, .slice pp ln cl] 26)).alloc (.cells #[.int .i64 b.k, .int .i64 b.n, .string (bs b.s), .int .i64 b.e, .int .i64 b.r.1, .int .i64 b.r.2.1, .bool b.r.2.2.1, .bool b.r.2.2.2, .int .i64 b.q.1, .int .i64 b.q.2.1, .bool b.q.2.2.1, .bool b.q.2.2.2, .slice qq lm cm] 26)) W.heap.size a (.slice pp ln cl) ∧ BlkX ((W.alloc (.cells #[.int .i64 a.k, .int .i64 a.n, .string (bs a.s), .int .i64 a.e, .int .i64 a.r.1, .int .i64 a.r.2.1, .bool a.r.2.2.1, .bool a.r.2.2.2, .int .i64 a.q.1, .int .i64 a.q.2.1, .bool a.q.2.2.1, .bool a.q.2.2.2, .slice pp ln cl] 26)).alloc (.cells #[.int .i64 b.k, .int .i64 b.n, .string (bs b.s), .int .i64 b.e, .int .i64 b.r.1, .int .i64 b.r.2.1, .bool b.r.2.2.1, .bool b.r.2.2.2, .int .i64 b.q.1, .int .i64 b.q.2.1, .bool b.q.2.2.1, .bool b.q.2.2.2, .slice qq lm cm] 26)) (W.heap.size + 1) b (.slice qq lm cm) ∧ Ext W ((W.alloc (.cells #[.int .i64 a.k, .int .i64 a.n, .string (bs a.s), .int .i64 a.e, .int .i64 a.r.1, .int .i64 a.r.2.1, .bool a.r.2.2.1, .bool a.r.2.2.2, .int .i64 a.q.1, .int .i64 a.q.2.1, .bool a.q.2.2.1, .bool a.q.2.2.2, .slice pp ln cl] 26)).alloc (.cells #[.int .i64 b.k, .int .i64 b.n, .string (bs b.s), .int .i64 b.e, .int .i64 b.r.1, .int .i64 b.r.2.1, .bool b.r.2.2.1, .bool b.r.2.2.2, .int .i64 b.q.1, .int .i64 b.q.2.1, .bool b.q.2.2.1, .bool b.q.2.2.2, .slice qq lm cm] 26))) := ⟨blk13_top rfl ((Ext.refl _).alloc _), blk13_top (by simp) (Ext.refl _), ((Ext.refl _).alloc _).alloc _⟩
    generalize ((W.alloc (.cells #[.int .i64 a.k, .int .i64 a.n, .string (bs a.s), .int .i64 a.e, .int .i64 a.r.1, .int .i64 a.r.2.1, .bool a.r.2.2.1, .bool a.r.2.2.2, .int .i64 a.q.1, .int .i64 a.q.2.1, .bool a.q.2.2.1, .bool a.q.2.2.2, .slice pp ln cl] 26)).alloc (.cells #[.int .i64 b.k, .int .i64 b.n, .string (bs b.s), .int .i64 b.e, .int .i64 b.r.1, .int .i64 b.r.2.1, .bool b.r.2.2.1, .bool b.r.2.2.2, .int .i64 b.q.1, .int .i64 b.q.2.1, .bool b.q.2.2.1, .bool b.q.2.2.2, .slice qq lm cm] 26)) = W2 at *
    have mkS : Hid (∀ V, Ext W2 V → V.cell? ⟨W.heap.size, 0, none⟩ = some (.int .i64 a.k) ∧ V.cell? ⟨W.heap.size, 1, none⟩ = some (.int .i64 a.n) ∧ V.cell? ⟨W.heap.size, 2, none⟩ = some (.string (bs a.s)) ∧ V.cell? ⟨W.heap.size, 3, none⟩ = some (.int .i64 a.e) ∧ V.cell? ⟨W.heap.size, 4, none⟩ = some (.int .i64 a.r.1) ∧ V.cell? ⟨W.heap.size, 5, none⟩ = some (.int .i64 a.r.2.1) ∧ V.cell? ⟨W.heap.size, 6, none⟩ = some (.bool a.r.2.2.1) ∧ V.cell? ⟨W.heap.size, 7, none⟩ = some (.bool a.r.2.2.2) ∧ V.cell? ⟨W.heap.size, 8, none⟩ = some (.int .i64 a.q.1) ∧ V.cell? ⟨W.heap.size, 9, none⟩ = some (.int .i64 a.q.2.1) ∧ V.cell? ⟨W.heap.size, 10, none⟩ = some (.bool a.q.2.2.1) ∧ V.cell? ⟨W.heap.size, 11, none⟩ = some (.bool a.q.2.2.2) ∧ V.cell? ⟨W.heap.size, 12, none⟩ = some (.slice pp ln cl) ∧ V.cell? ⟨W.heap.size + 1, 0, none⟩ = some (.int .i64 b.k) ∧ V.cell? ⟨W.heap.size + 1, 1, none⟩ = some (.int .i64 b.n) ∧ V.cell? ⟨W.heap.size + 1, 2, none⟩ = some (.string (bs b.s)) ∧ V.cell? ⟨W.heap.size + 1, 3, none⟩ = some (.int .i64 b.e) ∧ V.cell? ⟨W.heap.size + 1, 4, none⟩ = some (.int .i64 b.r.1) ∧ V.cell? ⟨W.heap.size + 1, 5, none⟩ = some (.int .i64 b.r.2.1) ∧ V.cell? ⟨W.heap.size + 1, 6, none⟩ = some (.bool b.r.2.2.1) ∧ V.cell? ⟨W.heap.size + 1, 7, none⟩ = some (.bool b.r.2.2.2) ∧ V.cell? ⟨W.heap.size + 1, 8, none⟩ = some (.int .i64 b.q.1) ∧ V.cell? ⟨W.heap.size + 1, 9, none⟩ = some (.int .i64 b.q.2.1) ∧ V.cell? ⟨W.heap.size + 1, 10, none⟩ = some (.bool b.q.2.2.1) ∧ V.cell? ⟨W.heap.size + 1, 11, none⟩ = some (.bool b.q.2.2.2) ∧ V.cell? ⟨W.heap.size + 1, 12, none⟩ = some (.slice qq lm cm)) := fun V e => by
      obtain ⟨qz, ⟨k0, k1, k2, k3, k4, k5, k6, k7, k8, k9, k10, k11, k12⟩, gz⟩ := HF.out.1.ext e
      obtain ⟨qy, ⟨m0, m1, m2, m3, m4, m5, m6, m7, m8, m9, m10, m11, m12⟩, gy⟩ := HF.out.2.1.ext e
      exact ⟨k0, k1, k2, k3, k4, k5, k6, k7, k8, k9, k10, k11, k12, m0, m1, m2, m3, m4, m5, m6, m7, m8, m9, m10, m11, m12⟩
    refine wp_region_held_drew (S := (fun V => V.cell? ⟨W.heap.size, 0, none⟩ = some (.int .i64 a.k) ∧ V.cell? ⟨W.heap.size, 1, none⟩ = some (.int .i64 a.n) ∧ V.cell? ⟨W.heap.size, 2, none⟩ = some (.string (bs a.s)) ∧ V.cell? ⟨W.heap.size, 3, none⟩ = some (.int .i64 a.e) ∧ V.cell? ⟨W.heap.size, 4, none⟩ = some (.int .i64 a.r.1) ∧ V.cell? ⟨W.heap.size, 5, none⟩ = some (.int .i64 a.r.2.1) ∧ V.cell? ⟨W.heap.size, 6, none⟩ = some (.bool a.r.2.2.1) ∧ V.cell? ⟨W.heap.size, 7, none⟩ = some (.bool a.r.2.2.2) ∧ V.cell? ⟨W.heap.size, 8, none⟩ = some (.int .i64 a.q.1) ∧ V.cell? ⟨W.heap.size, 9, none⟩ = some (.int .i64 a.q.2.1) ∧ V.cell? ⟨W.heap.size, 10, none⟩ = some (.bool a.q.2.2.1) ∧ V.cell? ⟨W.heap.size, 11, none⟩ = some (.bool a.q.2.2.2) ∧ V.cell? ⟨W.heap.size, 12, none⟩ = some (.slice pp ln cl) ∧ V.cell? ⟨W.heap.size + 1, 0, none⟩ = some (.int .i64 b.k) ∧ V.cell? ⟨W.heap.size + 1, 1, none⟩ = some (.int .i64 b.n) ∧ V.cell? ⟨W.heap.size + 1, 2, none⟩ = some (.string (bs b.s)) ∧ V.cell? ⟨W.heap.size + 1, 3, none⟩ = some (.int .i64 b.e) ∧ V.cell? ⟨W.heap.size + 1, 4, none⟩ = some (.int .i64 b.r.1) ∧ V.cell? ⟨W.heap.size + 1, 5, none⟩ = some (.int .i64 b.r.2.1) ∧ V.cell? ⟨W.heap.size + 1, 6, none⟩ = some (.bool b.r.2.2.1) ∧ V.cell? ⟨W.heap.size + 1, 7, none⟩ = some (.bool b.r.2.2.2) ∧ V.cell? ⟨W.heap.size + 1, 8, none⟩ = some (.int .i64 b.q.1) ∧ V.cell? ⟨W.heap.size + 1, 9, none⟩ = some (.int .i64 b.q.2.1) ∧ V.cell? ⟨W.heap.size + 1, 10, none⟩ = some (.bool b.q.2.2.1) ∧ V.cell? ⟨W.heap.size + 1, 11, none⟩ = some (.bool b.q.2.2.2) ∧ V.cell? ⟨W.heap.size + 1, 12, none⟩ = some (.slice qq lm cm))) (by kernel_rfl) ?_ (fun hHeld0 => ?_)
    · (refine mkS.out _ ?_; ((with_reducible (repeat (first | assumption | exact Ext.refl _ | apply Ext.alloc | apply Ext.drew | apply Ext.drewN))); done))
    refine wpAnyH_take (i := 0) (oi := { dst := some 63, op := Op.load 26 (Operand.tmp 2), type := 26, pos := "parse.go:93", after := #[], guard := none }) (v := ?_) rfl (by kernel_rfl) (by kernel_rfl) (by kernel_rfl) (fun _ _ _ h => h) (Or.inl ⟨by rfl, ?_⟩) (by assumption) ?_
    rotate_left
    · intro w hSw; (try dsimp only at hSw); first | (go_simp; done) | (go_simp; with_reducible rfl)
    try simp only [Act.put, List.setIfInBounds_toArray, List.set_cons_zero, List.set_cons_succ]
    refine wpAnyH_take (i := 2) (oi := { dst := some 65, op := Op.load 26 (Operand.tmp 3), type := 26, pos := "parse.go:93", after := #[], guard := none }) (v := ?_) rfl (by kernel_rfl) (by kernel_rfl) (by kernel_rfl) (fun _ _ _ h => h) (Or.inl ⟨by rfl, ?_⟩) (by assumption) ?_
    rotate_left
    · intro w hSw; (try dsimp only at hSw); first | (go_simp; done) | (go_simp; with_reducible rfl)
    try simp only [Act.put, List.setIfInBounds_toArray, List.set_cons_zero, List.set_cons_succ]
    refine wpAnyH_ready (rs := [1]) (by kernel_rfl) (by simp) ?_
    refine AllReadyH.cons (o := { dst := some 64, op := Op.call { callee := Callee.value (Operand.func 24), args := #[Operand.tmp 63], argTypes := #[26] }, type := 24, pos := "parse.go:93", after := #[{ on := 0, ground := Ground.data }], guard := none }) rfl (fun K hK => ?_) AllReadyH.nil
    go_simp
    (go_at_call 24; refine Calls.mono (cP _) ?_; rintro e y1 ⟨rfl, E1⟩; have X1 : Ext W2 y1 := Ext.trans (by with_reducible repeat (first | assumption | exact Ext.refl _ | apply Ext.alloc | apply Ext.drew | apply Ext.drewN)) E1)
    try go_wp2_with fail
    refine hK.out _ _ ?_ (fun hHeld1 => ?_)
    · (try dsimp only); (refine mkS.out _ ?_; ((with_reducible (repeat (first | assumption | exact Ext.refl _ | apply Ext.alloc | apply Ext.drew | apply Ext.drewN))); done))
    clear hK K hHeld0
    try simp only [Act.put, List.setIfInBounds_toArray, List.set_cons_zero, List.set_cons_succ]
    refine wpAnyH_ready (rs := [3]) (by kernel_rfl) (by simp) ?_
    refine AllReadyH.cons (o := { dst := some 66, op := Op.call { callee := Callee.value (Operand.func 24), args := #[Operand.tmp 65], argTypes := #[26] }, type := 24, pos := "parse.go:93", after := #[{ on := 2, ground := Ground.data }, { on := 1, ground := Ground.chain }], guard := none }) rfl (fun K hK => ?_) AllReadyH.nil
    go_simp
    (go_at_call 24; refine Calls.mono (cQ _) ?_; rintro e y2 ⟨rfl, E2⟩; have X2 : Ext W2 y2 := Ext.trans (by with_reducible repeat (first | assumption | exact Ext.refl _ | apply Ext.alloc | apply Ext.drew | apply Ext.drewN)) E2)
    try go_wp2_with fail
    refine hK.out _ _ ?_ (fun hHeld2 => ?_)
    · (try dsimp only); (refine mkS.out _ ?_; ((with_reducible (repeat (first | assumption | exact Ext.refl _ | apply Ext.alloc | apply Ext.drew | apply Ext.drewN))); done))
    clear hK K hHeld1
    try simp only [Act.put, List.setIfInBounds_toArray, List.set_cons_zero, List.set_cons_succ]
    refine wpAnyH_ready (rs := [4]) (by kernel_rfl) (by simp) ?_
    refine AllReadyH.cons (o := { dst := some 67, op := Op.call { callee := Callee.value (Operand.func 23), args := #[Operand.tmp 64, Operand.tmp 66, Operand.func 9], argTypes := #[24, 24, 30] }, type := 4, pos := "parse.go:93", after := #[{ on := 1, ground := Ground.data }, { on := 3, ground := Ground.data }, { on := 3, ground := Ground.chain }], guard := none }) rfl (fun K hK => ?_) AllReadyH.nil
    go_simp
    (go_at_call 23; refine Calls.mono (HEQ.out _ (HF.out.2.2.trans (by with_reducible repeat (first | assumption | exact Ext.refl _ | apply Ext.alloc | apply Ext.drew | apply Ext.drewN)))) ?_; rintro e y3 ⟨rfl, E3⟩; have X3 : Ext W2 y3 := Ext.trans (by with_reducible repeat (first | assumption | exact Ext.refl _ | apply Ext.alloc | apply Ext.drew | apply Ext.drewN)) E3)
    try go_wp2_with fail
    refine hK.out _ _ ?_ (fun hHeld3 => ?_)
    · (try dsimp only); (refine mkS.out _ ?_; ((with_reducible (repeat (first | assumption | exact Ext.refl _ | apply Ext.alloc | apply Ext.drew | apply Ext.drewN))); done))
    clear hK K hHeld2
    try simp only [Act.put, List.setIfInBounds_toArray, List.set_cons_zero, List.set_cons_succ]
    refine wpAnyH_take (i := 5) (oi := { dst := some 4, op := Op.assign (Operand.tmp 67), type := 4, pos := "parse.go:93", after := #[{ on := 4, ground := Ground.data }, { on := 4, ground := Ground.chain }, { on := 0, ground := Ground.phase }, { on := 1, ground := Ground.phase }, { on := 2, ground := Ground.phase }, { on := 3, ground := Ground.phase }, { on := 4, ground := Ground.phase }], guard := none }) (v := ?_) rfl (by kernel_rfl) (by kernel_rfl) (by kernel_rfl) (fun _ _ _ h => h) (Or.inl ⟨by rfl, ?_⟩) (by assumption) ?_
    rotate_left
    · intro w hSw; (try dsimp only at hSw); first | (go_simp; done) | (go_simp; with_reducible rfl)
    try simp only [Act.put, List.setIfInBounds_toArray, List.set_cons_zero, List.set_cons_succ]
    refine wpAnyH_done (by kernel_rfl) ?_ _
    go_wp2_with fail
    go_ret
    exact ⟨ret_bool (by rw [HX.out]), HF.out.2.2.trans (by assumption)⟩
  have n8 := hk
  clear hk
  have h678 : ¬ (a.k = 6 ∨ a.k = 7 ∨ a.k = 8) := by omega
  have HX : Hid (sameT (n + 1) a b = true) := by show _ = _; unfold sameT; rw [if_neg (by rw [← hkb]; simp)]; simp [n0, n1, n2, n3, n4, n5, h678]
  have e0 : (a.k == 0) = false := by simpa using n0
  have e2 : (a.k == 2) = false := by simpa using n2
  have e1 : (a.k == 1) = false := by simpa using n1
  have e3 : (a.k == 3) = false := by simpa using n3
  have e4 : (a.k == 4) = false := by simpa using n4
  have e5 : (a.k == 5) = false := by simpa using n5
  have e7 : (a.k == 7) = false := by simpa using n7
  have e8 : (a.k == 8) = false := by simpa using n8
  have cP := fun W => xparts_any a pp ln cl W
  have cQ := fun W => xparts_any b qq lm cm W
  rw [ptV_no h678] at cP
  rw [ptV_no (by rw [← hkb]; exact h678)] at cQ
  have HEQ : Hid (∀ V, Ext W V → Calls Tryz.prog 23 #[.slice none 0 0, .slice none 0 0, .func (.func 9) #[] #[]] V fun e w' => e = .returned (.bool true) ∧ Ext V w') := fun V e => equal_any P n [] [] none none 0 0 0 0 V (by decide) (fun x hx => by cases hx) .nil .nil
  clear h678 hkb n0 n1 n2 n3 n4 n5 n6 n7 n8 eR eQ hI hJ hl hx
  go_enter Tryz.func9, Tryz.ntmps9
  go_wp2_with fail
  have HF : Hid (BlkX ((W.alloc (.cells #[.int .i64 a.k, .int .i64 a.n, .string (bs a.s), .int .i64 a.e, .int .i64 a.r.1, .int .i64 a.r.2.1, .bool a.r.2.2.1, .bool a.r.2.2.2, .int .i64 a.q.1, .int .i64 a.q.2.1, .bool a.q.2.2.1, .bool a.q.2.2.2, .slice pp ln cl] 26)).alloc (.cells #[.int .i64 b.k, .int .i64 b.n, .string (bs b.s), .int .i64 b.e, .int .i64 b.r.1, .int .i64 b.r.2.1, .bool b.r.2.2.1, .bool b.r.2.2.2, .int .i64 b.q.1, .int .i64 b.q.2.1, .bool b.q.2.2.1, .bool b.q.2.2.2, .slice qq lm cm] 26)) W.heap.size a (.slice pp ln cl) ∧ BlkX ((W.alloc (.cells #[.int .i64 a.k, .int .i64 a.n, .string (bs a.s), .int .i64 a.e, .int .i64 a.r.1, .int .i64 a.r.2.1, .bool a.r.2.2.1, .bool a.r.2.2.2, .int .i64 a.q.1, .int .i64 a.q.2.1, .bool a.q.2.2.1, .bool a.q.2.2.2, .slice pp ln cl] 26)).alloc (.cells #[.int .i64 b.k, .int .i64 b.n, .string (bs b.s), .int .i64 b.e, .int .i64 b.r.1, .int .i64 b.r.2.1, .bool b.r.2.2.1, .bool b.r.2.2.2, .int .i64 b.q.1, .int .i64 b.q.2.1, .bool b.q.2.2.1, .bool b.q.2.2.2, .slice qq lm cm] 26)) (W.heap.size + 1) b (.slice qq lm cm) ∧ Ext W ((W.alloc (.cells #[.int .i64 a.k, .int .i64 a.n, .string (bs a.s), .int .i64 a.e, .int .i64 a.r.1, .int .i64 a.r.2.1, .bool a.r.2.2.1, .bool a.r.2.2.2, .int .i64 a.q.1, .int .i64 a.q.2.1, .bool a.q.2.2.1, .bool a.q.2.2.2, .slice pp ln cl] 26)).alloc (.cells #[.int .i64 b.k, .int .i64 b.n, .string (bs b.s), .int .i64 b.e, .int .i64 b.r.1, .int .i64 b.r.2.1, .bool b.r.2.2.1, .bool b.r.2.2.2, .int .i64 b.q.1, .int .i64 b.q.2.1, .bool b.q.2.2.1, .bool b.q.2.2.2, .slice qq lm cm] 26))) := ⟨blk13_top rfl ((Ext.refl _).alloc _), blk13_top (by simp) (Ext.refl _), ((Ext.refl _).alloc _).alloc _⟩
  generalize ((W.alloc (.cells #[.int .i64 a.k, .int .i64 a.n, .string (bs a.s), .int .i64 a.e, .int .i64 a.r.1, .int .i64 a.r.2.1, .bool a.r.2.2.1, .bool a.r.2.2.2, .int .i64 a.q.1, .int .i64 a.q.2.1, .bool a.q.2.2.1, .bool a.q.2.2.2, .slice pp ln cl] 26)).alloc (.cells #[.int .i64 b.k, .int .i64 b.n, .string (bs b.s), .int .i64 b.e, .int .i64 b.r.1, .int .i64 b.r.2.1, .bool b.r.2.2.1, .bool b.r.2.2.2, .int .i64 b.q.1, .int .i64 b.q.2.1, .bool b.q.2.2.1, .bool b.q.2.2.2, .slice qq lm cm] 26)) = W2 at *
  have mkS : Hid (∀ V, Ext W2 V → V.cell? ⟨W.heap.size, 0, none⟩ = some (.int .i64 a.k) ∧ V.cell? ⟨W.heap.size, 1, none⟩ = some (.int .i64 a.n) ∧ V.cell? ⟨W.heap.size, 2, none⟩ = some (.string (bs a.s)) ∧ V.cell? ⟨W.heap.size, 3, none⟩ = some (.int .i64 a.e) ∧ V.cell? ⟨W.heap.size, 4, none⟩ = some (.int .i64 a.r.1) ∧ V.cell? ⟨W.heap.size, 5, none⟩ = some (.int .i64 a.r.2.1) ∧ V.cell? ⟨W.heap.size, 6, none⟩ = some (.bool a.r.2.2.1) ∧ V.cell? ⟨W.heap.size, 7, none⟩ = some (.bool a.r.2.2.2) ∧ V.cell? ⟨W.heap.size, 8, none⟩ = some (.int .i64 a.q.1) ∧ V.cell? ⟨W.heap.size, 9, none⟩ = some (.int .i64 a.q.2.1) ∧ V.cell? ⟨W.heap.size, 10, none⟩ = some (.bool a.q.2.2.1) ∧ V.cell? ⟨W.heap.size, 11, none⟩ = some (.bool a.q.2.2.2) ∧ V.cell? ⟨W.heap.size, 12, none⟩ = some (.slice pp ln cl) ∧ V.cell? ⟨W.heap.size + 1, 0, none⟩ = some (.int .i64 b.k) ∧ V.cell? ⟨W.heap.size + 1, 1, none⟩ = some (.int .i64 b.n) ∧ V.cell? ⟨W.heap.size + 1, 2, none⟩ = some (.string (bs b.s)) ∧ V.cell? ⟨W.heap.size + 1, 3, none⟩ = some (.int .i64 b.e) ∧ V.cell? ⟨W.heap.size + 1, 4, none⟩ = some (.int .i64 b.r.1) ∧ V.cell? ⟨W.heap.size + 1, 5, none⟩ = some (.int .i64 b.r.2.1) ∧ V.cell? ⟨W.heap.size + 1, 6, none⟩ = some (.bool b.r.2.2.1) ∧ V.cell? ⟨W.heap.size + 1, 7, none⟩ = some (.bool b.r.2.2.2) ∧ V.cell? ⟨W.heap.size + 1, 8, none⟩ = some (.int .i64 b.q.1) ∧ V.cell? ⟨W.heap.size + 1, 9, none⟩ = some (.int .i64 b.q.2.1) ∧ V.cell? ⟨W.heap.size + 1, 10, none⟩ = some (.bool b.q.2.2.1) ∧ V.cell? ⟨W.heap.size + 1, 11, none⟩ = some (.bool b.q.2.2.2) ∧ V.cell? ⟨W.heap.size + 1, 12, none⟩ = some (.slice qq lm cm)) := fun V e => by
    obtain ⟨qz, ⟨k0, k1, k2, k3, k4, k5, k6, k7, k8, k9, k10, k11, k12⟩, gz⟩ := HF.out.1.ext e
    obtain ⟨qy, ⟨m0, m1, m2, m3, m4, m5, m6, m7, m8, m9, m10, m11, m12⟩, gy⟩ := HF.out.2.1.ext e
    exact ⟨k0, k1, k2, k3, k4, k5, k6, k7, k8, k9, k10, k11, k12, m0, m1, m2, m3, m4, m5, m6, m7, m8, m9, m10, m11, m12⟩
  refine wp_region_held_drew (S := (fun V => V.cell? ⟨W.heap.size, 0, none⟩ = some (.int .i64 a.k) ∧ V.cell? ⟨W.heap.size, 1, none⟩ = some (.int .i64 a.n) ∧ V.cell? ⟨W.heap.size, 2, none⟩ = some (.string (bs a.s)) ∧ V.cell? ⟨W.heap.size, 3, none⟩ = some (.int .i64 a.e) ∧ V.cell? ⟨W.heap.size, 4, none⟩ = some (.int .i64 a.r.1) ∧ V.cell? ⟨W.heap.size, 5, none⟩ = some (.int .i64 a.r.2.1) ∧ V.cell? ⟨W.heap.size, 6, none⟩ = some (.bool a.r.2.2.1) ∧ V.cell? ⟨W.heap.size, 7, none⟩ = some (.bool a.r.2.2.2) ∧ V.cell? ⟨W.heap.size, 8, none⟩ = some (.int .i64 a.q.1) ∧ V.cell? ⟨W.heap.size, 9, none⟩ = some (.int .i64 a.q.2.1) ∧ V.cell? ⟨W.heap.size, 10, none⟩ = some (.bool a.q.2.2.1) ∧ V.cell? ⟨W.heap.size, 11, none⟩ = some (.bool a.q.2.2.2) ∧ V.cell? ⟨W.heap.size, 12, none⟩ = some (.slice pp ln cl) ∧ V.cell? ⟨W.heap.size + 1, 0, none⟩ = some (.int .i64 b.k) ∧ V.cell? ⟨W.heap.size + 1, 1, none⟩ = some (.int .i64 b.n) ∧ V.cell? ⟨W.heap.size + 1, 2, none⟩ = some (.string (bs b.s)) ∧ V.cell? ⟨W.heap.size + 1, 3, none⟩ = some (.int .i64 b.e) ∧ V.cell? ⟨W.heap.size + 1, 4, none⟩ = some (.int .i64 b.r.1) ∧ V.cell? ⟨W.heap.size + 1, 5, none⟩ = some (.int .i64 b.r.2.1) ∧ V.cell? ⟨W.heap.size + 1, 6, none⟩ = some (.bool b.r.2.2.1) ∧ V.cell? ⟨W.heap.size + 1, 7, none⟩ = some (.bool b.r.2.2.2) ∧ V.cell? ⟨W.heap.size + 1, 8, none⟩ = some (.int .i64 b.q.1) ∧ V.cell? ⟨W.heap.size + 1, 9, none⟩ = some (.int .i64 b.q.2.1) ∧ V.cell? ⟨W.heap.size + 1, 10, none⟩ = some (.bool b.q.2.2.1) ∧ V.cell? ⟨W.heap.size + 1, 11, none⟩ = some (.bool b.q.2.2.2) ∧ V.cell? ⟨W.heap.size + 1, 12, none⟩ = some (.slice qq lm cm))) (by kernel_rfl) ?_ (fun hHeld0 => ?_)
  · (refine mkS.out _ ?_; ((with_reducible (repeat (first | assumption | exact Ext.refl _ | apply Ext.alloc | apply Ext.drew | apply Ext.drewN))); done))
  refine wpAnyH_take (i := 0) (oi := { dst := some 63, op := Op.load 26 (Operand.tmp 2), type := 26, pos := "parse.go:93", after := #[], guard := none }) (v := ?_) rfl (by kernel_rfl) (by kernel_rfl) (by kernel_rfl) (fun _ _ _ h => h) (Or.inl ⟨by rfl, ?_⟩) (by assumption) ?_
  rotate_left
  · intro w hSw; (try dsimp only at hSw); first | (go_simp; done) | (go_simp; with_reducible rfl)
  try simp only [Act.put, List.setIfInBounds_toArray, List.set_cons_zero, List.set_cons_succ]
  refine wpAnyH_take (i := 2) (oi := { dst := some 65, op := Op.load 26 (Operand.tmp 3), type := 26, pos := "parse.go:93", after := #[], guard := none }) (v := ?_) rfl (by kernel_rfl) (by kernel_rfl) (by kernel_rfl) (fun _ _ _ h => h) (Or.inl ⟨by rfl, ?_⟩) (by assumption) ?_
  rotate_left
  · intro w hSw; (try dsimp only at hSw); first | (go_simp; done) | (go_simp; with_reducible rfl)
  try simp only [Act.put, List.setIfInBounds_toArray, List.set_cons_zero, List.set_cons_succ]
  refine wpAnyH_ready (rs := [1]) (by kernel_rfl) (by simp) ?_
  refine AllReadyH.cons (o := { dst := some 64, op := Op.call { callee := Callee.value (Operand.func 24), args := #[Operand.tmp 63], argTypes := #[26] }, type := 24, pos := "parse.go:93", after := #[{ on := 0, ground := Ground.data }], guard := none }) rfl (fun K hK => ?_) AllReadyH.nil
  go_simp
  (go_at_call 24; refine Calls.mono (cP _) ?_; rintro e y1 ⟨rfl, E1⟩; have X1 : Ext W2 y1 := Ext.trans (by with_reducible repeat (first | assumption | exact Ext.refl _ | apply Ext.alloc | apply Ext.drew | apply Ext.drewN)) E1)
  try go_wp2_with fail
  refine hK.out _ _ ?_ (fun hHeld1 => ?_)
  · (try dsimp only); (refine mkS.out _ ?_; ((with_reducible (repeat (first | assumption | exact Ext.refl _ | apply Ext.alloc | apply Ext.drew | apply Ext.drewN))); done))
  clear hK K hHeld0
  try simp only [Act.put, List.setIfInBounds_toArray, List.set_cons_zero, List.set_cons_succ]
  refine wpAnyH_ready (rs := [3]) (by kernel_rfl) (by simp) ?_
  refine AllReadyH.cons (o := { dst := some 66, op := Op.call { callee := Callee.value (Operand.func 24), args := #[Operand.tmp 65], argTypes := #[26] }, type := 24, pos := "parse.go:93", after := #[{ on := 2, ground := Ground.data }, { on := 1, ground := Ground.chain }], guard := none }) rfl (fun K hK => ?_) AllReadyH.nil
  go_simp
  (go_at_call 24; refine Calls.mono (cQ _) ?_; rintro e y2 ⟨rfl, E2⟩; have X2 : Ext W2 y2 := Ext.trans (by with_reducible repeat (first | assumption | exact Ext.refl _ | apply Ext.alloc | apply Ext.drew | apply Ext.drewN)) E2)
  try go_wp2_with fail
  refine hK.out _ _ ?_ (fun hHeld2 => ?_)
  · (try dsimp only); (refine mkS.out _ ?_; ((with_reducible (repeat (first | assumption | exact Ext.refl _ | apply Ext.alloc | apply Ext.drew | apply Ext.drewN))); done))
  clear hK K hHeld1
  try simp only [Act.put, List.setIfInBounds_toArray, List.set_cons_zero, List.set_cons_succ]
  refine wpAnyH_ready (rs := [4]) (by kernel_rfl) (by simp) ?_
  refine AllReadyH.cons (o := { dst := some 67, op := Op.call { callee := Callee.value (Operand.func 23), args := #[Operand.tmp 64, Operand.tmp 66, Operand.func 9], argTypes := #[24, 24, 30] }, type := 4, pos := "parse.go:93", after := #[{ on := 1, ground := Ground.data }, { on := 3, ground := Ground.data }, { on := 3, ground := Ground.chain }], guard := none }) rfl (fun K hK => ?_) AllReadyH.nil
  go_simp
  (go_at_call 23; refine Calls.mono (HEQ.out _ (HF.out.2.2.trans (by with_reducible repeat (first | assumption | exact Ext.refl _ | apply Ext.alloc | apply Ext.drew | apply Ext.drewN)))) ?_; rintro e y3 ⟨rfl, E3⟩; have X3 : Ext W2 y3 := Ext.trans (by with_reducible repeat (first | assumption | exact Ext.refl _ | apply Ext.alloc | apply Ext.drew | apply Ext.drewN)) E3)
  try go_wp2_with fail
  refine hK.out _ _ ?_ (fun hHeld3 => ?_)
  · (try dsimp only); (refine mkS.out _ ?_; ((with_reducible (repeat (first | assumption | exact Ext.refl _ | apply Ext.alloc | apply Ext.drew | apply Ext.drewN))); done))
  clear hK K hHeld2
  try simp only [Act.put, List.setIfInBounds_toArray, List.set_cons_zero, List.set_cons_succ]
  refine wpAnyH_take (i := 5) (oi := { dst := some 4, op := Op.assign (Operand.tmp 67), type := 4, pos := "parse.go:93", after := #[{ on := 4, ground := Ground.data }, { on := 4, ground := Ground.chain }, { on := 0, ground := Ground.phase }, { on := 1, ground := Ground.phase }, { on := 2, ground := Ground.phase }, { on := 3, ground := Ground.phase }, { on := 4, ground := Ground.phase }], guard := none }) (v := ?_) rfl (by kernel_rfl) (by kernel_rfl) (by kernel_rfl) (fun _ _ _ h => h) (Or.inl ⟨by rfl, ?_⟩) (by assumption) ?_
  rotate_left
  · intro w hSw; (try dsimp only at hSw); first | (go_simp; done) | (go_simp; with_reducible rfl)
  try simp only [Act.put, List.setIfInBounds_toArray, List.set_cons_zero, List.set_cons_succ]
  refine wpAnyH_done (by kernel_rfl) ?_ _
  go_wp2_with fail
  go_ret
  exact ⟨ret_bool (by rw [HX.out]), HF.out.2.2.trans (by assumption)⟩
theorem psame_any (P : Nat → Prop) (n : Nat) (a : T) (h : Hr n a) : SmC 9 P n a := by
  induction n generalizing a with
  | zero => cases h
  | succ n ih => exact psame_step P n a h.1 (fun x hx => ih x (h.2 x hx))
theorem allZ_refl (g : T → T → Bool) (l : List T) (h : ∀ x ∈ l, g x x = true) : allZ g l l = true := by
  induction l with
  | nil => rfl
  | cons a r ih => simp [allZ, h a (List.mem_cons_self ..), ih (fun x hx => h x (List.mem_cons_of_mem _ hx))]
theorem same_refl (n : Nat) (a : T) (h : Hr n a) : sameT n a a = true := by
  induction n generalizing a with
  | zero => cases h
  | succ n ih =>
    have := allZ_refl (sameT n) a.l (fun x hx => ih x (h.2 x hx))
    unfold sameT
    simp [this]
set_option maxRecDepth 100000 in
theorem pdeep_step (n : Nat) (hn : n ≤ 1000) (t : T) (hl : t.l.length ≤ 100000) (hx : ∀ x ∈ t.l, DpC 11 n x) : DpC 11 (n + 1) t := by
  intro W P pp ln cl hL
  have cP := fun W => xparts_any t pp ln cl W
  obtain ⟨l, p2, l2, c2, hp, hL2, HX0, hl2, hx2⟩ : ∃ (l : List T) (p2 : Option Addr) (l2 c2 : Nat), ptV t (.slice pp ln cl) = .slice p2 l2 c2 ∧ IsL W P (.slice p2 l2 c2) l ∧ depT (n + 1) t = maxD (depT n) l + 1 ∧ l.length ≤ 100000 ∧ (∀ x ∈ l, DpC 11 n x) := by
    by_cases h : t.k = 6 ∨ t.k = 7 ∨ t.k = 8
    · exact ⟨t.l, pp, ln, cl, ptV_yes h _, hL, if_pos h, hl, hx⟩
    · exact ⟨[], none, 0, 0, ptV_no h _, .nil, if_neg h, by decide, fun x hx => by cases hx⟩
  rw [hp] at cP
  have hln : l2 = l.length := by
    obtain ⟨p, c, h1, _⟩ := hL2.form
    cases h1; rfl
  have hl3 : l2 ≤ 100000 := by omega
  have HX : Hid (depT (n + 1) t = maxD (depT n) l + 1) := HX0
  have HI : Hid (IsL W P (.slice p2 l2 c2) l) := hL2
  have HLN : Hid (l2 = l.length) := hln
  have HXX : Hid (∀ x ∈ l, DpC 11 n x) := hx2
  have HN : Hid (n ≤ 1000) := hn
  clear hL hln hl hx hn hL2 HX0 hl2 hx2 hp
  go_enter Tryz.func11, Tryz.ntmps11
  go_wp2_with fail
  refine (cP _).mono ?_
  rintro e w1 ⟨rfl, E1⟩
  have HE0 : Hid (Ext W w1) := ((Ext.refl _).alloc _).trans E1
  clear E1
  go_wp2_with fail
  go_loopw [3, 9] (fun nv iv wr => ∃ j m : Nat, j ≤ l2 ∧ nv = .int .i64 (m : Int) ∧ iv = .int .i64 (j : Int) ∧ m = maxD (depT n) (l.take j) ∧ m ≤ 1000 ∧ Ext W wr) (fun _ iv _ => l2 - (intOf iv).toNat)
  case atStart => exact ⟨0, 0, Nat.zero_le _, rfl, rfl, rfl, by omega, HE0.out⟩
  case round =>
    obtain ⟨j, m, hj, rfl, rfl, hm, hm2, hE⟩ := hrel
    have HE : Hid (Ext W wr ∧ m = maxD (depT n) (l.take j)) := ⟨hE, hm⟩
    clear hE hm
    by_cases hlt : j < l2
    · have hltI : (j : Int) < (l2 : Int) := by omega
      have hI := HI.out.ext HE.out.1
      obtain ⟨gb, off, x, lv, hpp, hx1, hA1, hgb, hA2, hLx, hce⟩ := hI.at (i := j) (by rw [← HLN.out]; exact hlt)
      clear hA1 hA2
      subst hpp
      obtain ⟨pp, cl', hlv, hcl⟩ := hLx.form
      obtain ⟨ln', hln'⟩ : ∃ ln', x.l.length = ln' := ⟨_, rfl⟩
      rw [hln'] at hlv
      subst hlv
      have HX1 : Hid (l[j]? = some x) := hx1
      have HC : Hid (∀ V, Ext wr V → Calls Tryz.prog 11 #[.agg #[.int .i64 x.k, .int .i64 x.n, .string (bs x.s), .int .i64 x.e, .int .i64 x.r.1, .int .i64 x.r.2.1, .bool x.r.2.2.1, .bool x.r.2.2.2, .int .i64 x.q.1, .int .i64 x.q.2.1, .bool x.q.2.2.1, .bool x.q.2.2.2, .slice pp ln' cl']] V fun e w' => e = .returned (.int .i64 ((depT n x : Nat) : Int)) ∧ Ext V w') := fun V e => HXX.out x (List.mem_of_getElem? hx1) V P pp ln' cl' (hLx.ext e)
      have HD : Hid (depT n x ≤ 1000) := by have := dep_le n x; have := HN.out; show _ ≤ _; omega
      obtain ⟨d, hd⟩ : ∃ d, depT n x = d := ⟨_, rfl⟩
      rw [hd] at HC HD
      have HDD : Hid (depT n x = d) := hd
      have hd2 := HD.out
      have e0 : wr.cell? ⟨gb, off + j * 13, none⟩ = some (.int .i64 x.k) := hce 0 _ rfl
      have e1 : wr.cell? ⟨gb, off + j * 13 + 1, none⟩ = some (.int .i64 x.n) := hce 1 _ rfl
      have e2 : wr.cell? ⟨gb, off + j * 13 + 2, none⟩ = some (.string (bs x.s)) := hce 2 _ rfl
      have e3 : wr.cell? ⟨gb, off + j * 13 + 3, none⟩ = some (.int .i64 x.e) := hce 3 _ rfl
      have e4 : wr.cell? ⟨gb, off + j * 13 + 4, none⟩ = some (.int .i64 x.r.1) := hce 4 _ rfl
      have e5 : wr.cell? ⟨gb, off + j * 13 + 5, none⟩ = some (.int .i64 x.r.2.1) := hce 5 _ rfl
      have e6 : wr.cell? ⟨gb, off + j * 13 + 6, none⟩ = some (.bool x.r.2.2.1) := hce 6 _ rfl
      have e7 : wr.cell? ⟨gb, off + j * 13 + 7, none⟩ = some (.bool x.r.2.2.2) := hce 7 _ rfl
      have e8 : wr.cell? ⟨gb, off + j * 13 + 8, none⟩ = some (.int .i64 x.q.1) := hce 8 _ rfl
      have e9 : wr.cell? ⟨gb, off + j * 13 + 9, none⟩ = some (.int .i64 x.q.2.1) := hce 9 _ rfl
      have e10 : wr.cell? ⟨gb, off + j * 13 + 10, none⟩ = some (.bool x.q.2.2.1) := hce 10 _ rfl
      have e11 : wr.cell? ⟨gb, off + j * 13 + 11, none⟩ = some (.bool x.q.2.2.2) := hce 11 _ rfl
      have e12 : wr.cell? ⟨gb, off + j * 13 + 12, none⟩ = some (.slice pp ln' cl') := hce 12 _ rfl
      clear hI hx1 hLx hce hcl hln' hd
      go_wp2_with fail
      refine (HC.out _ ((Ext.refl _).alloc _)).mono ?_
      rintro e w2 ⟨rfl, E1⟩
      have HE1 : Hid (Ext W w2) := (HE.out.1.alloc _).trans E1
      clear E1 e0 e1 e2 e3 e4 e5 e6 e7 e8 e9 e10 e11 e12
      by_cases hgt : (m : Int) < (d : Int)
      · have hmx : max (m : Int) (d : Int) = (d : Int) := by omega
        go_wp2_with fail
        go_roundw
        case rel => exact ⟨j + 1, d, by omega, by first | rfl | (rw [hmx]), by go_num, by rw [maxD_take _ _ _ _ HX1.out, ← HE.out.2, HDD.out]; omega, by omega, HE1.out⟩
        case measure => show l2 - ((j : Int) + 1).toNat < l2 - ((j : Int)).toNat; omega
      · have hmx : max (m : Int) (d : Int) = (m : Int) := by omega
        go_wp2_with fail
        go_roundw
        case rel => exact ⟨j + 1, m, by omega, by first | rfl | (rw [hmx]), by go_num, by rw [maxD_take _ _ _ _ HX1.out, ← HE.out.2, HDD.out]; omega, by omega, HE1.out⟩
        case measure => show l2 - ((j : Int) + 1).toNat < l2 - ((j : Int)).toNat; omega
    · have hltI : ¬ (j : Int) < (l2 : Int) := by omega
      have HT : Hid (l.take j = l) := by show _ = _; exact List.take_of_length_le (by have := HLN.out; omega)
      go_wp2_with fail
      go_ret
      refine ⟨ret_int ?_, HE.out.1⟩
      rw [HX.out, ← HT.out, ← HE.out.2]; omega
theorem pdeep_any (n : Nat) (hn : n ≤ 1000) (t : T) (h : Hr n t) : DpC 11 n t := by
  induction n generalizing t with
  | zero => cases h
  | succ n ih => exact pdeep_step n (by omega) t h.1 (fun x hx => ih (by omega) x (h.2 x hx))
end Go.Proofs.YtmapfpeaaipdoaaGreatDoor
