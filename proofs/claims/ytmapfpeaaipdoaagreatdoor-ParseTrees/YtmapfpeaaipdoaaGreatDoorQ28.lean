/-
  Same says yes of two trees that are one.
-/
import Derived.Test.YtmapfpeaaipdoaaGreatDoorQ27
namespace Go.Proofs.YtmapfpeaaipdoaaGreatDoor
open Go.RowKit
set_option maxHeartbeats 6000000

/-- A tree's parts, if its kind has some. -/
def ptV (t : T) (v : Value) : Value := if t.k = 6 ∨ t.k = 7 ∨ t.k = 8 then v else .slice none 0 0
theorem ptV_yes {t : T} (h : t.k = 6 ∨ t.k = 7 ∨ t.k = 8) (v : Value) : ptV t v = v := if_pos h
theorem ptV_no {t : T} (h : ¬ (t.k = 6 ∨ t.k = 7 ∨ t.k = 8)) (v : Value) : ptV t v = .slice none 0 0 := if_neg h
theorem xparts_any (t : T) (pp : Option Addr) (ln cl : Nat) (W : World) : Calls Tryz.prog 24 #[.agg #[.int .i64 t.k, .int .i64 t.n, .string (bs t.s), .int .i64 t.e, .int .i64 t.r.1, .int .i64 t.r.2.1, .bool t.r.2.2.1, .bool t.r.2.2.2, .int .i64 t.q.1, .int .i64 t.q.2.1, .bool t.q.2.2.1, .bool t.q.2.2.2, .slice pp ln cl]] W fun e w' => e = .returned (ptV t (.slice pp ln cl)) ∧ Ext W w' := by
  by_cases h6 : t.k = 6
  · have e6 : (t.k == 6) = true := by rw [h6]; rfl
    rw [ptV_yes (.inl h6)]
    clear h6
    go_enter Tryz.func24, Tryz.ntmps24
    go_wp2_with fail
    go_ret
    exact ⟨rfl, (Ext.refl _).alloc _⟩
  by_cases h7 : t.k = 7
  · have e6 : (t.k == 6) = false := by rw [h7]; rfl
    have e7 : (t.k == 7) = true := by rw [h7]; rfl
    rw [ptV_yes (.inr (.inl h7))]
    clear h6 h7
    go_enter Tryz.func24, Tryz.ntmps24
    go_wp2_with fail
    go_ret
    exact ⟨rfl, (Ext.refl _).alloc _⟩
  by_cases h8 : t.k = 8
  · have e6 : (t.k == 6) = false := by rw [h8]; rfl
    have e7 : (t.k == 7) = false := by rw [h8]; rfl
    have e8 : (t.k == 8) = true := by rw [h8]; rfl
    rw [ptV_yes (.inr (.inr h8))]
    clear h6 h7 h8
    go_enter Tryz.func24, Tryz.ntmps24
    go_wp2_with fail
    go_ret
    exact ⟨rfl, (Ext.refl _).alloc _⟩
  have e6 : (t.k == 6) = false := by simpa using h6
  have e7 : (t.k == 7) = false := by simpa using h7
  have e8 : (t.k == 8) = false := by simpa using h8
  rw [ptV_no (by omega)]
  clear h6 h7 h8
  go_enter Tryz.func24, Tryz.ntmps24
  go_wp2_with fail
  go_ret
  exact ⟨rfl, (Ext.refl _).alloc _⟩
/-- Same says yes of t, wherever it lies. -/
def STr (P : Nat → Prop) (t : T) : Prop := ∀ (W : World) (pp qq : Option Addr) (ln cl cm : Nat), IsL W P (.slice pp ln cl) t.l → IsL W P (.slice qq ln cm) t.l → Calls Tryz.prog 9 #[.agg #[.int .i64 t.k, .int .i64 t.n, .string (bs t.s), .int .i64 t.e, .int .i64 t.r.1, .int .i64 t.r.2.1, .bool t.r.2.2.1, .bool t.r.2.2.2, .int .i64 t.q.1, .int .i64 t.q.2.1, .bool t.q.2.2.1, .bool t.q.2.2.2, .slice pp ln cl], .agg #[.int .i64 t.k, .int .i64 t.n, .string (bs t.s), .int .i64 t.e, .int .i64 t.r.1, .int .i64 t.r.2.1, .bool t.r.2.2.1, .bool t.r.2.2.2, .int .i64 t.q.1, .int .i64 t.q.2.1, .bool t.q.2.2.1, .bool t.q.2.2.2, .slice qq ln cm]] W fun e w' => e = .returned (.bool true) ∧ Ext W w'
set_option maxRecDepth 100000 in
theorem equal_true (P : Nat → Prop) (l : List T) (pp qq : Option Addr) (ln cl cm : Nat) (w : World) (hl : l.length ≤ 1000) (hx : ∀ x ∈ l, STr P x) (h : IsL w P (.slice pp ln cl) l) (h' : IsL w P (.slice qq ln cm) l) :
    Calls Tryz.prog 23 #[.slice pp ln cl, .slice qq ln cm, .func (.func 9) #[] #[]] w fun e w' => e = .returned (.bool true) ∧ Ext w w' := by
  have hln : ln = l.length := by
    obtain ⟨p, c, h1, _⟩ := h.form
    cases h1; rfl
  have hent : ∀ args W, (callFunc 9 args).run Tryz.prog W = .ok (.enter 9 args) W := enters_of Tryz.func9 (by kernel_rfl) rfl
  have HX : Hid (∀ x ∈ l, STr P x) := hx
  have HI : Hid (IsL w P (.slice pp ln cl) l ∧ IsL w P (.slice qq ln cm) l) := ⟨h, h'⟩
  have HLN : Hid (ln = l.length) := hln
  have hl2 : ln ≤ 1000 := by omega
  have hnn : ((ln : Int) != (ln : Int)) = false := by simp
  have hnm : ((ln : Int) == (ln : Int)) = true := by simp
  clear hx h h' hln hl
  go_enter Tryz.func23, Tryz.ntmps23
  go_wp2_with fail
  go_loopw [7, 8, 9, 17] (fun _ _ _ i wr => ∃ j : Nat, j ≤ ln ∧ i = .int .i64 (j : Int) ∧ Ext w wr) (fun _ _ _ i _ => ln - (intOf i).toNat)
  case atStart => exact ⟨0, Nat.zero_le _, rfl, Ext.refl _⟩
  case round =>
    obtain ⟨j, hj, rfl, hE⟩ := hrel
    have HE : Hid (Ext w wr) := hE
    clear hE
    by_cases hlt : j < ln
    · have hltI : (j : Int) < (ln : Int) := by omega
      obtain ⟨gb, off, x, lv, hpp, hx1, hA1, hgb, hA2, hLx, he⟩ := (HI.out.1.ext HE.out).at (i := j) (by rw [← HLN.out]; exact hlt)
      obtain ⟨gc, ofc, y, lu, hqq, hy1, hA3, hgc, hA4, hLy, hf⟩ := (HI.out.2.ext HE.out).at (i := j) (by rw [← HLN.out]; exact hlt)
      have hxy : y = x := by rw [hx1] at hy1; exact (Option.some.inj hy1).symm
      subst hxy
      subst hpp
      subst hqq
      obtain ⟨pp, cl', hlv, hcl⟩ := hLx.form
      obtain ⟨qq, cm', hlu, hcm⟩ := hLy.form
      obtain ⟨ln', hln'⟩ : ∃ ln', y.l.length = ln' := ⟨_, rfl⟩
      rw [hln'] at hlv hlu
      subst hlv
      subst hlu
      have HC : Hid (Calls Tryz.prog 9 #[.agg #[.int .i64 y.k, .int .i64 y.n, .string (bs y.s), .int .i64 y.e, .int .i64 y.r.1, .int .i64 y.r.2.1, .bool y.r.2.2.1, .bool y.r.2.2.2, .int .i64 y.q.1, .int .i64 y.q.2.1, .bool y.q.2.2.1, .bool y.q.2.2.2, .slice pp ln' cl'], .agg #[.int .i64 y.k, .int .i64 y.n, .string (bs y.s), .int .i64 y.e, .int .i64 y.r.1, .int .i64 y.r.2.1, .bool y.r.2.2.1, .bool y.r.2.2.2, .int .i64 y.q.1, .int .i64 y.q.2.1, .bool y.q.2.2.1, .bool y.q.2.2.2, .slice qq ln' cm']] ((wr.alloc (.cells #[.int .i64 y.k, .int .i64 y.n, .string (bs y.s), .int .i64 y.e, .int .i64 y.r.1, .int .i64 y.r.2.1, .bool y.r.2.2.1, .bool y.r.2.2.2, .int .i64 y.q.1, .int .i64 y.q.2.1, .bool y.q.2.2.1, .bool y.q.2.2.2, .slice pp ln' cl'] 26)).alloc (.cells #[.int .i64 y.k, .int .i64 y.n, .string (bs y.s), .int .i64 y.e, .int .i64 y.r.1, .int .i64 y.r.2.1, .bool y.r.2.2.1, .bool y.r.2.2.2, .int .i64 y.q.1, .int .i64 y.q.2.1, .bool y.q.2.2.1, .bool y.q.2.2.2, .slice qq ln' cm'] 26)) fun e w' => e = .returned (.bool true) ∧ Ext ((wr.alloc (.cells #[.int .i64 y.k, .int .i64 y.n, .string (bs y.s), .int .i64 y.e, .int .i64 y.r.1, .int .i64 y.r.2.1, .bool y.r.2.2.1, .bool y.r.2.2.2, .int .i64 y.q.1, .int .i64 y.q.2.1, .bool y.q.2.2.1, .bool y.q.2.2.2, .slice pp ln' cl'] 26)).alloc (.cells #[.int .i64 y.k, .int .i64 y.n, .string (bs y.s), .int .i64 y.e, .int .i64 y.r.1, .int .i64 y.r.2.1, .bool y.r.2.2.1, .bool y.r.2.2.2, .int .i64 y.q.1, .int .i64 y.q.2.1, .bool y.q.2.2.1, .bool y.q.2.2.2, .slice qq ln' cm'] 26)) w') := HX.out y (List.mem_of_getElem? hx1) _ pp qq ln' cl' cm' (hLx.ext (((Ext.refl _).alloc _).alloc _)) (hLy.ext (((Ext.refl _).alloc _).alloc _))
      have e0 : wr.cell? ⟨gb, off + j * 13, none⟩ = some (.int .i64 y.k) := he 0 _ rfl
      have e1 : wr.cell? ⟨gb, off + j * 13 + 1, none⟩ = some (.int .i64 y.n) := he 1 _ rfl
      have e2 : wr.cell? ⟨gb, off + j * 13 + 2, none⟩ = some (.string (bs y.s)) := he 2 _ rfl
      have e3 : wr.cell? ⟨gb, off + j * 13 + 3, none⟩ = some (.int .i64 y.e) := he 3 _ rfl
      have e4 : wr.cell? ⟨gb, off + j * 13 + 4, none⟩ = some (.int .i64 y.r.1) := he 4 _ rfl
      have e5 : wr.cell? ⟨gb, off + j * 13 + 5, none⟩ = some (.int .i64 y.r.2.1) := he 5 _ rfl
      have e6 : wr.cell? ⟨gb, off + j * 13 + 6, none⟩ = some (.bool y.r.2.2.1) := he 6 _ rfl
      have e7 : wr.cell? ⟨gb, off + j * 13 + 7, none⟩ = some (.bool y.r.2.2.2) := he 7 _ rfl
      have e8 : wr.cell? ⟨gb, off + j * 13 + 8, none⟩ = some (.int .i64 y.q.1) := he 8 _ rfl
      have e9 : wr.cell? ⟨gb, off + j * 13 + 9, none⟩ = some (.int .i64 y.q.2.1) := he 9 _ rfl
      have e10 : wr.cell? ⟨gb, off + j * 13 + 10, none⟩ = some (.bool y.q.2.2.1) := he 10 _ rfl
      have e11 : wr.cell? ⟨gb, off + j * 13 + 11, none⟩ = some (.bool y.q.2.2.2) := he 11 _ rfl
      have e12 : wr.cell? ⟨gb, off + j * 13 + 12, none⟩ = some (.slice pp ln' cl') := he 12 _ rfl
      have f0 : wr.cell? ⟨gc, ofc + j * 13, none⟩ = some (.int .i64 y.k) := hf 0 _ rfl
      have f1 : wr.cell? ⟨gc, ofc + j * 13 + 1, none⟩ = some (.int .i64 y.n) := hf 1 _ rfl
      have f2 : wr.cell? ⟨gc, ofc + j * 13 + 2, none⟩ = some (.string (bs y.s)) := hf 2 _ rfl
      have f3 : wr.cell? ⟨gc, ofc + j * 13 + 3, none⟩ = some (.int .i64 y.e) := hf 3 _ rfl
      have f4 : wr.cell? ⟨gc, ofc + j * 13 + 4, none⟩ = some (.int .i64 y.r.1) := hf 4 _ rfl
      have f5 : wr.cell? ⟨gc, ofc + j * 13 + 5, none⟩ = some (.int .i64 y.r.2.1) := hf 5 _ rfl
      have f6 : wr.cell? ⟨gc, ofc + j * 13 + 6, none⟩ = some (.bool y.r.2.2.1) := hf 6 _ rfl
      have f7 : wr.cell? ⟨gc, ofc + j * 13 + 7, none⟩ = some (.bool y.r.2.2.2) := hf 7 _ rfl
      have f8 : wr.cell? ⟨gc, ofc + j * 13 + 8, none⟩ = some (.int .i64 y.q.1) := hf 8 _ rfl
      have f9 : wr.cell? ⟨gc, ofc + j * 13 + 9, none⟩ = some (.int .i64 y.q.2.1) := hf 9 _ rfl
      have f10 : wr.cell? ⟨gc, ofc + j * 13 + 10, none⟩ = some (.bool y.q.2.2.1) := hf 10 _ rfl
      have f11 : wr.cell? ⟨gc, ofc + j * 13 + 11, none⟩ = some (.bool y.q.2.2.2) := hf 11 _ rfl
      have f12 : wr.cell? ⟨gc, ofc + j * 13 + 12, none⟩ = some (.slice qq ln' cm') := hf 12 _ rfl
      clear hx1 hy1 hLx hLy he hf hcl hcm hln' hA1 hA2 hA3 hA4
      go_wp2_with fail
      refine HC.out.mono ?_
      rintro e w1 ⟨rfl, E1⟩
      have HE1 : Hid (Ext w w1) := ((HE.out.alloc _).alloc _).trans E1
      clear E1 e0 e1 e2 e3 e4 e5 e6 e7 e8 e9 e10 e11 e12 f0 f1 f2 f3 f4 f5 f6 f7 f8 f9 f10 f11 f12
      go_wp2_with fail
      go_roundw
      case rel => exact ⟨j + 1, by omega, by go_num, HE1.out⟩
      case measure => show ln - ((j : Int) + 1).toNat < ln - ((j : Int)).toNat; omega
    · have hltI : ¬ (j : Int) < (ln : Int) := by omega
      go_wp2_with fail
      go_ret
      exact ⟨rfl, HE.out⟩
set_option maxRecDepth 100000 in
theorem same_true (P : Nat → Prop) (t : T) (hl : t.l.length ≤ 1000) (hx : ∀ x ∈ t.l, STr P x) : STr P t := by
  intro W pp qq ln cl cm h h'
  have hnn : (t.k != t.k) = false := by simp
  have hnm : (t.k == t.k) = true := by simp
  have hN : (t.n == t.n) = true := by simp
  have hE : (t.e == t.e) = true := by simp
  have hS : ((bs t.s).toList == (bs t.s).toList) = true := by simp
  have hSn : ((bs t.s).toList != (bs t.s).toList) = false := by simp
  have cP := fun W => xparts_any t pp ln cl W
  have cQ := fun W => xparts_any t qq ln cm W
  have HEQ : Hid (∀ W', Ext W W' → Calls Tryz.prog 23 #[.slice pp ln cl, .slice qq ln cm, .func (.func 9) #[] #[]] W' fun e w' => e = .returned (.bool true) ∧ Ext W' w') := fun W' e => equal_true P t.l pp qq ln cl cm W' hl hx (h.ext e) (h'.ext e)
  have HEN : Hid (∀ W', Calls Tryz.prog 23 #[.slice none 0 0, .slice none 0 0, .func (.func 9) #[] #[]] W' fun e w' => e = .returned (.bool true) ∧ Ext W' w') := fun W' => equal_true P [] none none 0 0 0 W' (by simp) (fun x hx => by cases hx) .nil .nil
  clear hl hx h h'
  by_cases k0 : t.k = 0
  · have e0 : (t.k == 0) = true := by rw [k0]; rfl
    clear k0 cP cQ
    go_enter Tryz.func9, Tryz.ntmps9
    go_wp2_with fail
    go_ret
    exact ⟨rfl, ((Ext.refl _).alloc _).alloc _⟩
  have e0 : (t.k == 0) = false := by simpa using k0
  by_cases k2 : t.k = 2
  · have e2 : (t.k == 2) = true := by rw [k2]; rfl
    clear k0 k2 cP cQ
    go_enter Tryz.func9, Tryz.ntmps9
    go_wp2_with fail
    go_ret
    exact ⟨rfl, ((Ext.refl _).alloc _).alloc _⟩
  have e2 : (t.k == 2) = false := by simpa using k2
  by_cases k1 : t.k = 1
  · have e1 : (t.k == 1) = true := by rw [k1]; rfl
    clear k0 k1 k2 cP cQ
    go_enter Tryz.func9, Tryz.ntmps9
    go_wp2_with fail
    go_ret
    exact ⟨rfl, ((Ext.refl _).alloc _).alloc _⟩
  have e1 : (t.k == 1) = false := by simpa using k1
  by_cases k3 : t.k = 3
  · have e3 : (t.k == 3) = true := by rw [k3]; rfl
    clear k0 k1 k2 k3 cP cQ
    go_enter Tryz.func9, Tryz.ntmps9
    go_wp2_with fail
    go_ret
    exact ⟨rfl, ((Ext.refl _).alloc _).alloc _⟩
  have e3 : (t.k == 3) = false := by simpa using k3
  by_cases k4 : t.k = 4
  · have e4 : (t.k == 4) = true := by rw [k4]; rfl
    clear k0 k1 k2 k3 k4 cP cQ
    go_enter Tryz.func9, Tryz.ntmps9
    go_wp2_with fail
    go_ret
    exact ⟨rfl, ((Ext.refl _).alloc _).alloc _⟩
  have e4 : (t.k == 4) = false := by simpa using k4
  by_cases k5 : t.k = 5
  · have e5 : (t.k == 5) = true := by rw [k5]; rfl
    clear k0 k1 k2 k3 k4 k5 cP cQ
    go_enter Tryz.func9, Tryz.ntmps9
    go_wp2_with fail
    go_ret
    exact ⟨rfl, ((Ext.refl _).alloc _).alloc _⟩
  have e5 : (t.k == 5) = false := by simpa using k5
  by_cases k6 : t.k = 6
  · have e7 : (t.k == 7) = false := by rw [k6]; rfl
    have e8 : (t.k == 8) = false := by rw [k6]; rfl
    simp only [ptV_yes (.inl k6)] at cP cQ
    clear k0 k1 k2 k3 k4 k5 k6
    go_enter Tryz.func9, Tryz.ntmps9
    go_wp2_with fail
    have HF : Hid (Blk13 ((W.alloc (.cells #[.int .i64 t.k, .int .i64 t.n, .string (bs t.s), .int .i64 t.e, .int .i64 t.r.1, .int .i64 t.r.2.1, .bool t.r.2.2.1, .bool t.r.2.2.2, .int .i64 t.q.1, .int .i64 t.q.2.1, .bool t.q.2.2.1, .bool t.q.2.2.2, .slice pp ln cl] 26)).alloc (.cells #[.int .i64 t.k, .int .i64 t.n, .string (bs t.s), .int .i64 t.e, .int .i64 t.r.1, .int .i64 t.r.2.1, .bool t.r.2.2.1, .bool t.r.2.2.2, .int .i64 t.q.1, .int .i64 t.q.2.1, .bool t.q.2.2.1, .bool t.q.2.2.2, .slice qq ln cm] 26)) W.heap.size (.int .i64 t.k) (.int .i64 t.n) (.string (bs t.s)) (.int .i64 t.e) (.int .i64 t.r.1) (.int .i64 t.r.2.1) (.bool t.r.2.2.1) (.bool t.r.2.2.2) (.int .i64 t.q.1) (.int .i64 t.q.2.1) (.bool t.q.2.2.1) (.bool t.q.2.2.2) (.slice pp ln cl) ∧ Blk13 ((W.alloc (.cells #[.int .i64 t.k, .int .i64 t.n, .string (bs t.s), .int .i64 t.e, .int .i64 t.r.1, .int .i64 t.r.2.1, .bool t.r.2.2.1, .bool t.r.2.2.2, .int .i64 t.q.1, .int .i64 t.q.2.1, .bool t.q.2.2.1, .bool t.q.2.2.2, .slice pp ln cl] 26)).alloc (.cells #[.int .i64 t.k, .int .i64 t.n, .string (bs t.s), .int .i64 t.e, .int .i64 t.r.1, .int .i64 t.r.2.1, .bool t.r.2.2.1, .bool t.r.2.2.2, .int .i64 t.q.1, .int .i64 t.q.2.1, .bool t.q.2.2.1, .bool t.q.2.2.2, .slice qq ln cm] 26)) (W.heap.size + 1) (.int .i64 t.k) (.int .i64 t.n) (.string (bs t.s)) (.int .i64 t.e) (.int .i64 t.r.1) (.int .i64 t.r.2.1) (.bool t.r.2.2.1) (.bool t.r.2.2.2) (.int .i64 t.q.1) (.int .i64 t.q.2.1) (.bool t.q.2.2.1) (.bool t.q.2.2.2) (.slice qq ln cm) ∧ Ext W ((W.alloc (.cells #[.int .i64 t.k, .int .i64 t.n, .string (bs t.s), .int .i64 t.e, .int .i64 t.r.1, .int .i64 t.r.2.1, .bool t.r.2.2.1, .bool t.r.2.2.2, .int .i64 t.q.1, .int .i64 t.q.2.1, .bool t.q.2.2.1, .bool t.q.2.2.2, .slice pp ln cl] 26)).alloc (.cells #[.int .i64 t.k, .int .i64 t.n, .string (bs t.s), .int .i64 t.e, .int .i64 t.r.1, .int .i64 t.r.2.1, .bool t.r.2.2.1, .bool t.r.2.2.2, .int .i64 t.q.1, .int .i64 t.q.2.1, .bool t.q.2.2.1, .bool t.q.2.2.2, .slice qq ln cm] 26))) := ⟨blk13_top rfl ((Ext.refl _).alloc _), blk13_top (by simp) (Ext.refl _), ((Ext.refl _).alloc _).alloc _⟩
    generalize (W.alloc (.cells #[.int .i64 t.k, .int .i64 t.n, .string (bs t.s), .int .i64 t.e, .int .i64 t.r.1, .int .i64 t.r.2.1, .bool t.r.2.2.1, .bool t.r.2.2.2, .int .i64 t.q.1, .int .i64 t.q.2.1, .bool t.q.2.2.1, .bool t.q.2.2.2, .slice pp ln cl] 26)).alloc (.cells #[.int .i64 t.k, .int .i64 t.n, .string (bs t.s), .int .i64 t.e, .int .i64 t.r.1, .int .i64 t.r.2.1, .bool t.r.2.2.1, .bool t.r.2.2.2, .int .i64 t.q.1, .int .i64 t.q.2.1, .bool t.q.2.2.1, .bool t.q.2.2.2, .slice qq ln cm] 26) = W2 at HF ⊢
    have mkS : Hid (∀ V, Ext W2 V → (V.cell? ⟨W.heap.size, 0, none⟩ = some (.int .i64 t.k) ∧ V.cell? ⟨W.heap.size, 1, none⟩ = some (.int .i64 t.n) ∧ V.cell? ⟨W.heap.size, 2, none⟩ = some (.string (bs t.s)) ∧ V.cell? ⟨W.heap.size, 3, none⟩ = some (.int .i64 t.e) ∧ V.cell? ⟨W.heap.size, 4, none⟩ = some (.int .i64 t.r.1) ∧ V.cell? ⟨W.heap.size, 5, none⟩ = some (.int .i64 t.r.2.1) ∧ V.cell? ⟨W.heap.size, 6, none⟩ = some (.bool t.r.2.2.1) ∧ V.cell? ⟨W.heap.size, 7, none⟩ = some (.bool t.r.2.2.2) ∧ V.cell? ⟨W.heap.size, 8, none⟩ = some (.int .i64 t.q.1) ∧ V.cell? ⟨W.heap.size, 9, none⟩ = some (.int .i64 t.q.2.1) ∧ V.cell? ⟨W.heap.size, 10, none⟩ = some (.bool t.q.2.2.1) ∧ V.cell? ⟨W.heap.size, 11, none⟩ = some (.bool t.q.2.2.2) ∧ V.cell? ⟨W.heap.size, 12, none⟩ = some (.slice pp ln cl) ∧ V.cell? ⟨W.heap.size + 1, 0, none⟩ = some (.int .i64 t.k) ∧ V.cell? ⟨W.heap.size + 1, 1, none⟩ = some (.int .i64 t.n) ∧ V.cell? ⟨W.heap.size + 1, 2, none⟩ = some (.string (bs t.s)) ∧ V.cell? ⟨W.heap.size + 1, 3, none⟩ = some (.int .i64 t.e) ∧ V.cell? ⟨W.heap.size + 1, 4, none⟩ = some (.int .i64 t.r.1) ∧ V.cell? ⟨W.heap.size + 1, 5, none⟩ = some (.int .i64 t.r.2.1) ∧ V.cell? ⟨W.heap.size + 1, 6, none⟩ = some (.bool t.r.2.2.1) ∧ V.cell? ⟨W.heap.size + 1, 7, none⟩ = some (.bool t.r.2.2.2) ∧ V.cell? ⟨W.heap.size + 1, 8, none⟩ = some (.int .i64 t.q.1) ∧ V.cell? ⟨W.heap.size + 1, 9, none⟩ = some (.int .i64 t.q.2.1) ∧ V.cell? ⟨W.heap.size + 1, 10, none⟩ = some (.bool t.q.2.2.1) ∧ V.cell? ⟨W.heap.size + 1, 11, none⟩ = some (.bool t.q.2.2.2) ∧ V.cell? ⟨W.heap.size + 1, 12, none⟩ = some (.slice qq ln cm)) ∧ Ext W2 V) := by
      intro V e
      have y := (HF.out.1.ext e).2.1
      have z := (HF.out.2.1.ext e).2.1
      exact ⟨⟨y.1, y.2.1, y.2.2.1, y.2.2.2.1, y.2.2.2.2.1, y.2.2.2.2.2.1, y.2.2.2.2.2.2.1, y.2.2.2.2.2.2.2.1, y.2.2.2.2.2.2.2.2.1, y.2.2.2.2.2.2.2.2.2.1, y.2.2.2.2.2.2.2.2.2.2.1, y.2.2.2.2.2.2.2.2.2.2.2.1, y.2.2.2.2.2.2.2.2.2.2.2.2, z.1, z.2.1, z.2.2.1, z.2.2.2.1, z.2.2.2.2.1, z.2.2.2.2.2.1, z.2.2.2.2.2.2.1, z.2.2.2.2.2.2.2.1, z.2.2.2.2.2.2.2.2.1, z.2.2.2.2.2.2.2.2.2.1, z.2.2.2.2.2.2.2.2.2.2.1, z.2.2.2.2.2.2.2.2.2.2.2.1, z.2.2.2.2.2.2.2.2.2.2.2.2⟩, e⟩
    go_region_held3 (fun V => (V.cell? ⟨W.heap.size, 0, none⟩ = some (.int .i64 t.k) ∧ V.cell? ⟨W.heap.size, 1, none⟩ = some (.int .i64 t.n) ∧ V.cell? ⟨W.heap.size, 2, none⟩ = some (.string (bs t.s)) ∧ V.cell? ⟨W.heap.size, 3, none⟩ = some (.int .i64 t.e) ∧ V.cell? ⟨W.heap.size, 4, none⟩ = some (.int .i64 t.r.1) ∧ V.cell? ⟨W.heap.size, 5, none⟩ = some (.int .i64 t.r.2.1) ∧ V.cell? ⟨W.heap.size, 6, none⟩ = some (.bool t.r.2.2.1) ∧ V.cell? ⟨W.heap.size, 7, none⟩ = some (.bool t.r.2.2.2) ∧ V.cell? ⟨W.heap.size, 8, none⟩ = some (.int .i64 t.q.1) ∧ V.cell? ⟨W.heap.size, 9, none⟩ = some (.int .i64 t.q.2.1) ∧ V.cell? ⟨W.heap.size, 10, none⟩ = some (.bool t.q.2.2.1) ∧ V.cell? ⟨W.heap.size, 11, none⟩ = some (.bool t.q.2.2.2) ∧ V.cell? ⟨W.heap.size, 12, none⟩ = some (.slice pp ln cl) ∧ V.cell? ⟨W.heap.size + 1, 0, none⟩ = some (.int .i64 t.k) ∧ V.cell? ⟨W.heap.size + 1, 1, none⟩ = some (.int .i64 t.n) ∧ V.cell? ⟨W.heap.size + 1, 2, none⟩ = some (.string (bs t.s)) ∧ V.cell? ⟨W.heap.size + 1, 3, none⟩ = some (.int .i64 t.e) ∧ V.cell? ⟨W.heap.size + 1, 4, none⟩ = some (.int .i64 t.r.1) ∧ V.cell? ⟨W.heap.size + 1, 5, none⟩ = some (.int .i64 t.r.2.1) ∧ V.cell? ⟨W.heap.size + 1, 6, none⟩ = some (.bool t.r.2.2.1) ∧ V.cell? ⟨W.heap.size + 1, 7, none⟩ = some (.bool t.r.2.2.2) ∧ V.cell? ⟨W.heap.size + 1, 8, none⟩ = some (.int .i64 t.q.1) ∧ V.cell? ⟨W.heap.size + 1, 9, none⟩ = some (.int .i64 t.q.2.1) ∧ V.cell? ⟨W.heap.size + 1, 10, none⟩ = some (.bool t.q.2.2.1) ∧ V.cell? ⟨W.heap.size + 1, 11, none⟩ = some (.bool t.q.2.2.2) ∧ V.cell? ⟨W.heap.size + 1, 12, none⟩ = some (.slice qq ln cm)) ∧ Ext W2 V)
      ((refine mkS.out _ ?_; with_reducible (repeat (first | assumption | exact Ext.refl _ | apply Ext.drew | apply Ext.drewN)); done))
      (first | (go_at_call_of 24 (Value.slice pp ln cl); refine (cP _).mono ?_; rintro e y1 ⟨rfl, E1⟩; have X1 : Ext W2 y1 := (by first | exact Ext.trans (by assumption) E1 | exact ((Ext.refl W2).drew).trans E1 | exact ((Ext.refl W2).drewN _).trans E1)) | (go_at_call_of 24 (Value.slice qq ln cm); refine (cQ _).mono ?_; rintro e y1 ⟨rfl, E1⟩; have X1 : Ext W2 y1 := (by first | exact Ext.trans (by assumption) E1 | exact ((Ext.refl W2).drew).trans E1 | exact ((Ext.refl W2).drewN _).trans E1)) | (go_at_call 23; refine (HEQ.out _ (HF.out.2.2.trans (by assumption))).mono ?_; rintro e y1 ⟨rfl, E1⟩; have X1 : Ext W2 y1 := (by first | exact Ext.trans (by assumption) E1 | exact ((Ext.refl W2).drew).trans E1); have HZ : Hid (Ext W2 y1) := X1))
    all_goals
      go_wp2_with fail
      go_ret
      exact ⟨rfl, HF.out.2.2.trans HZ.out⟩
  by_cases k7 : t.k = 7
  · have e7 : (t.k == 7) = true := by rw [k7]; rfl
    simp only [ptV_yes (.inr (.inl k7))] at cP cQ
    clear k0 k1 k2 k3 k4 k5 k6 k7
    go_enter Tryz.func9, Tryz.ntmps9
    go_wp2_with fail
    have HF : Hid (Blk13 ((W.alloc (.cells #[.int .i64 t.k, .int .i64 t.n, .string (bs t.s), .int .i64 t.e, .int .i64 t.r.1, .int .i64 t.r.2.1, .bool t.r.2.2.1, .bool t.r.2.2.2, .int .i64 t.q.1, .int .i64 t.q.2.1, .bool t.q.2.2.1, .bool t.q.2.2.2, .slice pp ln cl] 26)).alloc (.cells #[.int .i64 t.k, .int .i64 t.n, .string (bs t.s), .int .i64 t.e, .int .i64 t.r.1, .int .i64 t.r.2.1, .bool t.r.2.2.1, .bool t.r.2.2.2, .int .i64 t.q.1, .int .i64 t.q.2.1, .bool t.q.2.2.1, .bool t.q.2.2.2, .slice qq ln cm] 26)) W.heap.size (.int .i64 t.k) (.int .i64 t.n) (.string (bs t.s)) (.int .i64 t.e) (.int .i64 t.r.1) (.int .i64 t.r.2.1) (.bool t.r.2.2.1) (.bool t.r.2.2.2) (.int .i64 t.q.1) (.int .i64 t.q.2.1) (.bool t.q.2.2.1) (.bool t.q.2.2.2) (.slice pp ln cl) ∧ Blk13 ((W.alloc (.cells #[.int .i64 t.k, .int .i64 t.n, .string (bs t.s), .int .i64 t.e, .int .i64 t.r.1, .int .i64 t.r.2.1, .bool t.r.2.2.1, .bool t.r.2.2.2, .int .i64 t.q.1, .int .i64 t.q.2.1, .bool t.q.2.2.1, .bool t.q.2.2.2, .slice pp ln cl] 26)).alloc (.cells #[.int .i64 t.k, .int .i64 t.n, .string (bs t.s), .int .i64 t.e, .int .i64 t.r.1, .int .i64 t.r.2.1, .bool t.r.2.2.1, .bool t.r.2.2.2, .int .i64 t.q.1, .int .i64 t.q.2.1, .bool t.q.2.2.1, .bool t.q.2.2.2, .slice qq ln cm] 26)) (W.heap.size + 1) (.int .i64 t.k) (.int .i64 t.n) (.string (bs t.s)) (.int .i64 t.e) (.int .i64 t.r.1) (.int .i64 t.r.2.1) (.bool t.r.2.2.1) (.bool t.r.2.2.2) (.int .i64 t.q.1) (.int .i64 t.q.2.1) (.bool t.q.2.2.1) (.bool t.q.2.2.2) (.slice qq ln cm) ∧ Ext W ((W.alloc (.cells #[.int .i64 t.k, .int .i64 t.n, .string (bs t.s), .int .i64 t.e, .int .i64 t.r.1, .int .i64 t.r.2.1, .bool t.r.2.2.1, .bool t.r.2.2.2, .int .i64 t.q.1, .int .i64 t.q.2.1, .bool t.q.2.2.1, .bool t.q.2.2.2, .slice pp ln cl] 26)).alloc (.cells #[.int .i64 t.k, .int .i64 t.n, .string (bs t.s), .int .i64 t.e, .int .i64 t.r.1, .int .i64 t.r.2.1, .bool t.r.2.2.1, .bool t.r.2.2.2, .int .i64 t.q.1, .int .i64 t.q.2.1, .bool t.q.2.2.1, .bool t.q.2.2.2, .slice qq ln cm] 26))) := ⟨blk13_top rfl ((Ext.refl _).alloc _), blk13_top (by simp) (Ext.refl _), ((Ext.refl _).alloc _).alloc _⟩
    generalize (W.alloc (.cells #[.int .i64 t.k, .int .i64 t.n, .string (bs t.s), .int .i64 t.e, .int .i64 t.r.1, .int .i64 t.r.2.1, .bool t.r.2.2.1, .bool t.r.2.2.2, .int .i64 t.q.1, .int .i64 t.q.2.1, .bool t.q.2.2.1, .bool t.q.2.2.2, .slice pp ln cl] 26)).alloc (.cells #[.int .i64 t.k, .int .i64 t.n, .string (bs t.s), .int .i64 t.e, .int .i64 t.r.1, .int .i64 t.r.2.1, .bool t.r.2.2.1, .bool t.r.2.2.2, .int .i64 t.q.1, .int .i64 t.q.2.1, .bool t.q.2.2.1, .bool t.q.2.2.2, .slice qq ln cm] 26) = W2 at HF ⊢
    have mkS : Hid (∀ V, Ext W2 V → (V.cell? ⟨W.heap.size, 0, none⟩ = some (.int .i64 t.k) ∧ V.cell? ⟨W.heap.size, 1, none⟩ = some (.int .i64 t.n) ∧ V.cell? ⟨W.heap.size, 2, none⟩ = some (.string (bs t.s)) ∧ V.cell? ⟨W.heap.size, 3, none⟩ = some (.int .i64 t.e) ∧ V.cell? ⟨W.heap.size, 4, none⟩ = some (.int .i64 t.r.1) ∧ V.cell? ⟨W.heap.size, 5, none⟩ = some (.int .i64 t.r.2.1) ∧ V.cell? ⟨W.heap.size, 6, none⟩ = some (.bool t.r.2.2.1) ∧ V.cell? ⟨W.heap.size, 7, none⟩ = some (.bool t.r.2.2.2) ∧ V.cell? ⟨W.heap.size, 8, none⟩ = some (.int .i64 t.q.1) ∧ V.cell? ⟨W.heap.size, 9, none⟩ = some (.int .i64 t.q.2.1) ∧ V.cell? ⟨W.heap.size, 10, none⟩ = some (.bool t.q.2.2.1) ∧ V.cell? ⟨W.heap.size, 11, none⟩ = some (.bool t.q.2.2.2) ∧ V.cell? ⟨W.heap.size, 12, none⟩ = some (.slice pp ln cl) ∧ V.cell? ⟨W.heap.size + 1, 0, none⟩ = some (.int .i64 t.k) ∧ V.cell? ⟨W.heap.size + 1, 1, none⟩ = some (.int .i64 t.n) ∧ V.cell? ⟨W.heap.size + 1, 2, none⟩ = some (.string (bs t.s)) ∧ V.cell? ⟨W.heap.size + 1, 3, none⟩ = some (.int .i64 t.e) ∧ V.cell? ⟨W.heap.size + 1, 4, none⟩ = some (.int .i64 t.r.1) ∧ V.cell? ⟨W.heap.size + 1, 5, none⟩ = some (.int .i64 t.r.2.1) ∧ V.cell? ⟨W.heap.size + 1, 6, none⟩ = some (.bool t.r.2.2.1) ∧ V.cell? ⟨W.heap.size + 1, 7, none⟩ = some (.bool t.r.2.2.2) ∧ V.cell? ⟨W.heap.size + 1, 8, none⟩ = some (.int .i64 t.q.1) ∧ V.cell? ⟨W.heap.size + 1, 9, none⟩ = some (.int .i64 t.q.2.1) ∧ V.cell? ⟨W.heap.size + 1, 10, none⟩ = some (.bool t.q.2.2.1) ∧ V.cell? ⟨W.heap.size + 1, 11, none⟩ = some (.bool t.q.2.2.2) ∧ V.cell? ⟨W.heap.size + 1, 12, none⟩ = some (.slice qq ln cm)) ∧ Ext W2 V) := by
      intro V e
      have y := (HF.out.1.ext e).2.1
      have z := (HF.out.2.1.ext e).2.1
      exact ⟨⟨y.1, y.2.1, y.2.2.1, y.2.2.2.1, y.2.2.2.2.1, y.2.2.2.2.2.1, y.2.2.2.2.2.2.1, y.2.2.2.2.2.2.2.1, y.2.2.2.2.2.2.2.2.1, y.2.2.2.2.2.2.2.2.2.1, y.2.2.2.2.2.2.2.2.2.2.1, y.2.2.2.2.2.2.2.2.2.2.2.1, y.2.2.2.2.2.2.2.2.2.2.2.2, z.1, z.2.1, z.2.2.1, z.2.2.2.1, z.2.2.2.2.1, z.2.2.2.2.2.1, z.2.2.2.2.2.2.1, z.2.2.2.2.2.2.2.1, z.2.2.2.2.2.2.2.2.1, z.2.2.2.2.2.2.2.2.2.1, z.2.2.2.2.2.2.2.2.2.2.1, z.2.2.2.2.2.2.2.2.2.2.2.1, z.2.2.2.2.2.2.2.2.2.2.2.2⟩, e⟩
    go_region_held3 (fun V => (V.cell? ⟨W.heap.size, 0, none⟩ = some (.int .i64 t.k) ∧ V.cell? ⟨W.heap.size, 1, none⟩ = some (.int .i64 t.n) ∧ V.cell? ⟨W.heap.size, 2, none⟩ = some (.string (bs t.s)) ∧ V.cell? ⟨W.heap.size, 3, none⟩ = some (.int .i64 t.e) ∧ V.cell? ⟨W.heap.size, 4, none⟩ = some (.int .i64 t.r.1) ∧ V.cell? ⟨W.heap.size, 5, none⟩ = some (.int .i64 t.r.2.1) ∧ V.cell? ⟨W.heap.size, 6, none⟩ = some (.bool t.r.2.2.1) ∧ V.cell? ⟨W.heap.size, 7, none⟩ = some (.bool t.r.2.2.2) ∧ V.cell? ⟨W.heap.size, 8, none⟩ = some (.int .i64 t.q.1) ∧ V.cell? ⟨W.heap.size, 9, none⟩ = some (.int .i64 t.q.2.1) ∧ V.cell? ⟨W.heap.size, 10, none⟩ = some (.bool t.q.2.2.1) ∧ V.cell? ⟨W.heap.size, 11, none⟩ = some (.bool t.q.2.2.2) ∧ V.cell? ⟨W.heap.size, 12, none⟩ = some (.slice pp ln cl) ∧ V.cell? ⟨W.heap.size + 1, 0, none⟩ = some (.int .i64 t.k) ∧ V.cell? ⟨W.heap.size + 1, 1, none⟩ = some (.int .i64 t.n) ∧ V.cell? ⟨W.heap.size + 1, 2, none⟩ = some (.string (bs t.s)) ∧ V.cell? ⟨W.heap.size + 1, 3, none⟩ = some (.int .i64 t.e) ∧ V.cell? ⟨W.heap.size + 1, 4, none⟩ = some (.int .i64 t.r.1) ∧ V.cell? ⟨W.heap.size + 1, 5, none⟩ = some (.int .i64 t.r.2.1) ∧ V.cell? ⟨W.heap.size + 1, 6, none⟩ = some (.bool t.r.2.2.1) ∧ V.cell? ⟨W.heap.size + 1, 7, none⟩ = some (.bool t.r.2.2.2) ∧ V.cell? ⟨W.heap.size + 1, 8, none⟩ = some (.int .i64 t.q.1) ∧ V.cell? ⟨W.heap.size + 1, 9, none⟩ = some (.int .i64 t.q.2.1) ∧ V.cell? ⟨W.heap.size + 1, 10, none⟩ = some (.bool t.q.2.2.1) ∧ V.cell? ⟨W.heap.size + 1, 11, none⟩ = some (.bool t.q.2.2.2) ∧ V.cell? ⟨W.heap.size + 1, 12, none⟩ = some (.slice qq ln cm)) ∧ Ext W2 V)
      ((refine mkS.out _ ?_; with_reducible (repeat (first | assumption | exact Ext.refl _ | apply Ext.drew | apply Ext.drewN)); done))
      (first | (go_at_call_of 24 (Value.slice pp ln cl); refine (cP _).mono ?_; rintro e y1 ⟨rfl, E1⟩; have X1 : Ext W2 y1 := (by first | exact Ext.trans (by assumption) E1 | exact ((Ext.refl W2).drew).trans E1 | exact ((Ext.refl W2).drewN _).trans E1)) | (go_at_call_of 24 (Value.slice qq ln cm); refine (cQ _).mono ?_; rintro e y1 ⟨rfl, E1⟩; have X1 : Ext W2 y1 := (by first | exact Ext.trans (by assumption) E1 | exact ((Ext.refl W2).drew).trans E1 | exact ((Ext.refl W2).drewN _).trans E1)) | (go_at_call 23; refine (HEQ.out _ (HF.out.2.2.trans (by assumption))).mono ?_; rintro e y1 ⟨rfl, E1⟩; have X1 : Ext W2 y1 := (by first | exact Ext.trans (by assumption) E1 | exact ((Ext.refl W2).drew).trans E1); have HZ : Hid (Ext W2 y1) := X1))
    all_goals
      go_wp2_with fail
      go_ret
      exact ⟨rfl, HF.out.2.2.trans HZ.out⟩
  by_cases k8 : t.k = 8
  · have e7 : (t.k == 7) = false := by rw [k8]; rfl
    have e8 : (t.k == 8) = true := by rw [k8]; rfl
    simp only [ptV_yes (.inr (.inr k8))] at cP cQ
    clear k0 k1 k2 k3 k4 k5 k6 k7 k8
    go_enter Tryz.func9, Tryz.ntmps9
    go_wp2_with fail
    have HF : Hid (Blk13 ((W.alloc (.cells #[.int .i64 t.k, .int .i64 t.n, .string (bs t.s), .int .i64 t.e, .int .i64 t.r.1, .int .i64 t.r.2.1, .bool t.r.2.2.1, .bool t.r.2.2.2, .int .i64 t.q.1, .int .i64 t.q.2.1, .bool t.q.2.2.1, .bool t.q.2.2.2, .slice pp ln cl] 26)).alloc (.cells #[.int .i64 t.k, .int .i64 t.n, .string (bs t.s), .int .i64 t.e, .int .i64 t.r.1, .int .i64 t.r.2.1, .bool t.r.2.2.1, .bool t.r.2.2.2, .int .i64 t.q.1, .int .i64 t.q.2.1, .bool t.q.2.2.1, .bool t.q.2.2.2, .slice qq ln cm] 26)) W.heap.size (.int .i64 t.k) (.int .i64 t.n) (.string (bs t.s)) (.int .i64 t.e) (.int .i64 t.r.1) (.int .i64 t.r.2.1) (.bool t.r.2.2.1) (.bool t.r.2.2.2) (.int .i64 t.q.1) (.int .i64 t.q.2.1) (.bool t.q.2.2.1) (.bool t.q.2.2.2) (.slice pp ln cl) ∧ Blk13 ((W.alloc (.cells #[.int .i64 t.k, .int .i64 t.n, .string (bs t.s), .int .i64 t.e, .int .i64 t.r.1, .int .i64 t.r.2.1, .bool t.r.2.2.1, .bool t.r.2.2.2, .int .i64 t.q.1, .int .i64 t.q.2.1, .bool t.q.2.2.1, .bool t.q.2.2.2, .slice pp ln cl] 26)).alloc (.cells #[.int .i64 t.k, .int .i64 t.n, .string (bs t.s), .int .i64 t.e, .int .i64 t.r.1, .int .i64 t.r.2.1, .bool t.r.2.2.1, .bool t.r.2.2.2, .int .i64 t.q.1, .int .i64 t.q.2.1, .bool t.q.2.2.1, .bool t.q.2.2.2, .slice qq ln cm] 26)) (W.heap.size + 1) (.int .i64 t.k) (.int .i64 t.n) (.string (bs t.s)) (.int .i64 t.e) (.int .i64 t.r.1) (.int .i64 t.r.2.1) (.bool t.r.2.2.1) (.bool t.r.2.2.2) (.int .i64 t.q.1) (.int .i64 t.q.2.1) (.bool t.q.2.2.1) (.bool t.q.2.2.2) (.slice qq ln cm) ∧ Ext W ((W.alloc (.cells #[.int .i64 t.k, .int .i64 t.n, .string (bs t.s), .int .i64 t.e, .int .i64 t.r.1, .int .i64 t.r.2.1, .bool t.r.2.2.1, .bool t.r.2.2.2, .int .i64 t.q.1, .int .i64 t.q.2.1, .bool t.q.2.2.1, .bool t.q.2.2.2, .slice pp ln cl] 26)).alloc (.cells #[.int .i64 t.k, .int .i64 t.n, .string (bs t.s), .int .i64 t.e, .int .i64 t.r.1, .int .i64 t.r.2.1, .bool t.r.2.2.1, .bool t.r.2.2.2, .int .i64 t.q.1, .int .i64 t.q.2.1, .bool t.q.2.2.1, .bool t.q.2.2.2, .slice qq ln cm] 26))) := ⟨blk13_top rfl ((Ext.refl _).alloc _), blk13_top (by simp) (Ext.refl _), ((Ext.refl _).alloc _).alloc _⟩
    generalize (W.alloc (.cells #[.int .i64 t.k, .int .i64 t.n, .string (bs t.s), .int .i64 t.e, .int .i64 t.r.1, .int .i64 t.r.2.1, .bool t.r.2.2.1, .bool t.r.2.2.2, .int .i64 t.q.1, .int .i64 t.q.2.1, .bool t.q.2.2.1, .bool t.q.2.2.2, .slice pp ln cl] 26)).alloc (.cells #[.int .i64 t.k, .int .i64 t.n, .string (bs t.s), .int .i64 t.e, .int .i64 t.r.1, .int .i64 t.r.2.1, .bool t.r.2.2.1, .bool t.r.2.2.2, .int .i64 t.q.1, .int .i64 t.q.2.1, .bool t.q.2.2.1, .bool t.q.2.2.2, .slice qq ln cm] 26) = W2 at HF ⊢
    have mkS : Hid (∀ V, Ext W2 V → (V.cell? ⟨W.heap.size, 0, none⟩ = some (.int .i64 t.k) ∧ V.cell? ⟨W.heap.size, 1, none⟩ = some (.int .i64 t.n) ∧ V.cell? ⟨W.heap.size, 2, none⟩ = some (.string (bs t.s)) ∧ V.cell? ⟨W.heap.size, 3, none⟩ = some (.int .i64 t.e) ∧ V.cell? ⟨W.heap.size, 4, none⟩ = some (.int .i64 t.r.1) ∧ V.cell? ⟨W.heap.size, 5, none⟩ = some (.int .i64 t.r.2.1) ∧ V.cell? ⟨W.heap.size, 6, none⟩ = some (.bool t.r.2.2.1) ∧ V.cell? ⟨W.heap.size, 7, none⟩ = some (.bool t.r.2.2.2) ∧ V.cell? ⟨W.heap.size, 8, none⟩ = some (.int .i64 t.q.1) ∧ V.cell? ⟨W.heap.size, 9, none⟩ = some (.int .i64 t.q.2.1) ∧ V.cell? ⟨W.heap.size, 10, none⟩ = some (.bool t.q.2.2.1) ∧ V.cell? ⟨W.heap.size, 11, none⟩ = some (.bool t.q.2.2.2) ∧ V.cell? ⟨W.heap.size, 12, none⟩ = some (.slice pp ln cl) ∧ V.cell? ⟨W.heap.size + 1, 0, none⟩ = some (.int .i64 t.k) ∧ V.cell? ⟨W.heap.size + 1, 1, none⟩ = some (.int .i64 t.n) ∧ V.cell? ⟨W.heap.size + 1, 2, none⟩ = some (.string (bs t.s)) ∧ V.cell? ⟨W.heap.size + 1, 3, none⟩ = some (.int .i64 t.e) ∧ V.cell? ⟨W.heap.size + 1, 4, none⟩ = some (.int .i64 t.r.1) ∧ V.cell? ⟨W.heap.size + 1, 5, none⟩ = some (.int .i64 t.r.2.1) ∧ V.cell? ⟨W.heap.size + 1, 6, none⟩ = some (.bool t.r.2.2.1) ∧ V.cell? ⟨W.heap.size + 1, 7, none⟩ = some (.bool t.r.2.2.2) ∧ V.cell? ⟨W.heap.size + 1, 8, none⟩ = some (.int .i64 t.q.1) ∧ V.cell? ⟨W.heap.size + 1, 9, none⟩ = some (.int .i64 t.q.2.1) ∧ V.cell? ⟨W.heap.size + 1, 10, none⟩ = some (.bool t.q.2.2.1) ∧ V.cell? ⟨W.heap.size + 1, 11, none⟩ = some (.bool t.q.2.2.2) ∧ V.cell? ⟨W.heap.size + 1, 12, none⟩ = some (.slice qq ln cm)) ∧ Ext W2 V) := by
      intro V e
      have y := (HF.out.1.ext e).2.1
      have z := (HF.out.2.1.ext e).2.1
      exact ⟨⟨y.1, y.2.1, y.2.2.1, y.2.2.2.1, y.2.2.2.2.1, y.2.2.2.2.2.1, y.2.2.2.2.2.2.1, y.2.2.2.2.2.2.2.1, y.2.2.2.2.2.2.2.2.1, y.2.2.2.2.2.2.2.2.2.1, y.2.2.2.2.2.2.2.2.2.2.1, y.2.2.2.2.2.2.2.2.2.2.2.1, y.2.2.2.2.2.2.2.2.2.2.2.2, z.1, z.2.1, z.2.2.1, z.2.2.2.1, z.2.2.2.2.1, z.2.2.2.2.2.1, z.2.2.2.2.2.2.1, z.2.2.2.2.2.2.2.1, z.2.2.2.2.2.2.2.2.1, z.2.2.2.2.2.2.2.2.2.1, z.2.2.2.2.2.2.2.2.2.2.1, z.2.2.2.2.2.2.2.2.2.2.2.1, z.2.2.2.2.2.2.2.2.2.2.2.2⟩, e⟩
    go_region_held3 (fun V => (V.cell? ⟨W.heap.size, 0, none⟩ = some (.int .i64 t.k) ∧ V.cell? ⟨W.heap.size, 1, none⟩ = some (.int .i64 t.n) ∧ V.cell? ⟨W.heap.size, 2, none⟩ = some (.string (bs t.s)) ∧ V.cell? ⟨W.heap.size, 3, none⟩ = some (.int .i64 t.e) ∧ V.cell? ⟨W.heap.size, 4, none⟩ = some (.int .i64 t.r.1) ∧ V.cell? ⟨W.heap.size, 5, none⟩ = some (.int .i64 t.r.2.1) ∧ V.cell? ⟨W.heap.size, 6, none⟩ = some (.bool t.r.2.2.1) ∧ V.cell? ⟨W.heap.size, 7, none⟩ = some (.bool t.r.2.2.2) ∧ V.cell? ⟨W.heap.size, 8, none⟩ = some (.int .i64 t.q.1) ∧ V.cell? ⟨W.heap.size, 9, none⟩ = some (.int .i64 t.q.2.1) ∧ V.cell? ⟨W.heap.size, 10, none⟩ = some (.bool t.q.2.2.1) ∧ V.cell? ⟨W.heap.size, 11, none⟩ = some (.bool t.q.2.2.2) ∧ V.cell? ⟨W.heap.size, 12, none⟩ = some (.slice pp ln cl) ∧ V.cell? ⟨W.heap.size + 1, 0, none⟩ = some (.int .i64 t.k) ∧ V.cell? ⟨W.heap.size + 1, 1, none⟩ = some (.int .i64 t.n) ∧ V.cell? ⟨W.heap.size + 1, 2, none⟩ = some (.string (bs t.s)) ∧ V.cell? ⟨W.heap.size + 1, 3, none⟩ = some (.int .i64 t.e) ∧ V.cell? ⟨W.heap.size + 1, 4, none⟩ = some (.int .i64 t.r.1) ∧ V.cell? ⟨W.heap.size + 1, 5, none⟩ = some (.int .i64 t.r.2.1) ∧ V.cell? ⟨W.heap.size + 1, 6, none⟩ = some (.bool t.r.2.2.1) ∧ V.cell? ⟨W.heap.size + 1, 7, none⟩ = some (.bool t.r.2.2.2) ∧ V.cell? ⟨W.heap.size + 1, 8, none⟩ = some (.int .i64 t.q.1) ∧ V.cell? ⟨W.heap.size + 1, 9, none⟩ = some (.int .i64 t.q.2.1) ∧ V.cell? ⟨W.heap.size + 1, 10, none⟩ = some (.bool t.q.2.2.1) ∧ V.cell? ⟨W.heap.size + 1, 11, none⟩ = some (.bool t.q.2.2.2) ∧ V.cell? ⟨W.heap.size + 1, 12, none⟩ = some (.slice qq ln cm)) ∧ Ext W2 V)
      ((refine mkS.out _ ?_; with_reducible (repeat (first | assumption | exact Ext.refl _ | apply Ext.drew | apply Ext.drewN)); done))
      (first | (go_at_call_of 24 (Value.slice pp ln cl); refine (cP _).mono ?_; rintro e y1 ⟨rfl, E1⟩; have X1 : Ext W2 y1 := (by first | exact Ext.trans (by assumption) E1 | exact ((Ext.refl W2).drew).trans E1 | exact ((Ext.refl W2).drewN _).trans E1)) | (go_at_call_of 24 (Value.slice qq ln cm); refine (cQ _).mono ?_; rintro e y1 ⟨rfl, E1⟩; have X1 : Ext W2 y1 := (by first | exact Ext.trans (by assumption) E1 | exact ((Ext.refl W2).drew).trans E1 | exact ((Ext.refl W2).drewN _).trans E1)) | (go_at_call 23; refine (HEQ.out _ (HF.out.2.2.trans (by assumption))).mono ?_; rintro e y1 ⟨rfl, E1⟩; have X1 : Ext W2 y1 := (by first | exact Ext.trans (by assumption) E1 | exact ((Ext.refl W2).drew).trans E1); have HZ : Hid (Ext W2 y1) := X1))
    all_goals
      go_wp2_with fail
      go_ret
      exact ⟨rfl, HF.out.2.2.trans HZ.out⟩
  have e7 : (t.k == 7) = false := by simpa using k7
  have e8 : (t.k == 8) = false := by simpa using k8
  have hno : ¬ (t.k = 6 ∨ t.k = 7 ∨ t.k = 8) := by omega
  simp only [ptV_no hno] at cP cQ
  clear hno
  clear k0 k1 k2 k3 k4 k5 k6 k7 k8
  go_enter Tryz.func9, Tryz.ntmps9
  go_wp2_with fail
  have HF : Hid (Blk13 ((W.alloc (.cells #[.int .i64 t.k, .int .i64 t.n, .string (bs t.s), .int .i64 t.e, .int .i64 t.r.1, .int .i64 t.r.2.1, .bool t.r.2.2.1, .bool t.r.2.2.2, .int .i64 t.q.1, .int .i64 t.q.2.1, .bool t.q.2.2.1, .bool t.q.2.2.2, .slice pp ln cl] 26)).alloc (.cells #[.int .i64 t.k, .int .i64 t.n, .string (bs t.s), .int .i64 t.e, .int .i64 t.r.1, .int .i64 t.r.2.1, .bool t.r.2.2.1, .bool t.r.2.2.2, .int .i64 t.q.1, .int .i64 t.q.2.1, .bool t.q.2.2.1, .bool t.q.2.2.2, .slice qq ln cm] 26)) W.heap.size (.int .i64 t.k) (.int .i64 t.n) (.string (bs t.s)) (.int .i64 t.e) (.int .i64 t.r.1) (.int .i64 t.r.2.1) (.bool t.r.2.2.1) (.bool t.r.2.2.2) (.int .i64 t.q.1) (.int .i64 t.q.2.1) (.bool t.q.2.2.1) (.bool t.q.2.2.2) (.slice pp ln cl) ∧ Blk13 ((W.alloc (.cells #[.int .i64 t.k, .int .i64 t.n, .string (bs t.s), .int .i64 t.e, .int .i64 t.r.1, .int .i64 t.r.2.1, .bool t.r.2.2.1, .bool t.r.2.2.2, .int .i64 t.q.1, .int .i64 t.q.2.1, .bool t.q.2.2.1, .bool t.q.2.2.2, .slice pp ln cl] 26)).alloc (.cells #[.int .i64 t.k, .int .i64 t.n, .string (bs t.s), .int .i64 t.e, .int .i64 t.r.1, .int .i64 t.r.2.1, .bool t.r.2.2.1, .bool t.r.2.2.2, .int .i64 t.q.1, .int .i64 t.q.2.1, .bool t.q.2.2.1, .bool t.q.2.2.2, .slice qq ln cm] 26)) (W.heap.size + 1) (.int .i64 t.k) (.int .i64 t.n) (.string (bs t.s)) (.int .i64 t.e) (.int .i64 t.r.1) (.int .i64 t.r.2.1) (.bool t.r.2.2.1) (.bool t.r.2.2.2) (.int .i64 t.q.1) (.int .i64 t.q.2.1) (.bool t.q.2.2.1) (.bool t.q.2.2.2) (.slice qq ln cm) ∧ Ext W ((W.alloc (.cells #[.int .i64 t.k, .int .i64 t.n, .string (bs t.s), .int .i64 t.e, .int .i64 t.r.1, .int .i64 t.r.2.1, .bool t.r.2.2.1, .bool t.r.2.2.2, .int .i64 t.q.1, .int .i64 t.q.2.1, .bool t.q.2.2.1, .bool t.q.2.2.2, .slice pp ln cl] 26)).alloc (.cells #[.int .i64 t.k, .int .i64 t.n, .string (bs t.s), .int .i64 t.e, .int .i64 t.r.1, .int .i64 t.r.2.1, .bool t.r.2.2.1, .bool t.r.2.2.2, .int .i64 t.q.1, .int .i64 t.q.2.1, .bool t.q.2.2.1, .bool t.q.2.2.2, .slice qq ln cm] 26))) := ⟨blk13_top rfl ((Ext.refl _).alloc _), blk13_top (by simp) (Ext.refl _), ((Ext.refl _).alloc _).alloc _⟩
  generalize (W.alloc (.cells #[.int .i64 t.k, .int .i64 t.n, .string (bs t.s), .int .i64 t.e, .int .i64 t.r.1, .int .i64 t.r.2.1, .bool t.r.2.2.1, .bool t.r.2.2.2, .int .i64 t.q.1, .int .i64 t.q.2.1, .bool t.q.2.2.1, .bool t.q.2.2.2, .slice pp ln cl] 26)).alloc (.cells #[.int .i64 t.k, .int .i64 t.n, .string (bs t.s), .int .i64 t.e, .int .i64 t.r.1, .int .i64 t.r.2.1, .bool t.r.2.2.1, .bool t.r.2.2.2, .int .i64 t.q.1, .int .i64 t.q.2.1, .bool t.q.2.2.1, .bool t.q.2.2.2, .slice qq ln cm] 26) = W2 at HF ⊢
  have mkS : Hid (∀ V, Ext W2 V → (V.cell? ⟨W.heap.size, 0, none⟩ = some (.int .i64 t.k) ∧ V.cell? ⟨W.heap.size, 1, none⟩ = some (.int .i64 t.n) ∧ V.cell? ⟨W.heap.size, 2, none⟩ = some (.string (bs t.s)) ∧ V.cell? ⟨W.heap.size, 3, none⟩ = some (.int .i64 t.e) ∧ V.cell? ⟨W.heap.size, 4, none⟩ = some (.int .i64 t.r.1) ∧ V.cell? ⟨W.heap.size, 5, none⟩ = some (.int .i64 t.r.2.1) ∧ V.cell? ⟨W.heap.size, 6, none⟩ = some (.bool t.r.2.2.1) ∧ V.cell? ⟨W.heap.size, 7, none⟩ = some (.bool t.r.2.2.2) ∧ V.cell? ⟨W.heap.size, 8, none⟩ = some (.int .i64 t.q.1) ∧ V.cell? ⟨W.heap.size, 9, none⟩ = some (.int .i64 t.q.2.1) ∧ V.cell? ⟨W.heap.size, 10, none⟩ = some (.bool t.q.2.2.1) ∧ V.cell? ⟨W.heap.size, 11, none⟩ = some (.bool t.q.2.2.2) ∧ V.cell? ⟨W.heap.size, 12, none⟩ = some (.slice pp ln cl) ∧ V.cell? ⟨W.heap.size + 1, 0, none⟩ = some (.int .i64 t.k) ∧ V.cell? ⟨W.heap.size + 1, 1, none⟩ = some (.int .i64 t.n) ∧ V.cell? ⟨W.heap.size + 1, 2, none⟩ = some (.string (bs t.s)) ∧ V.cell? ⟨W.heap.size + 1, 3, none⟩ = some (.int .i64 t.e) ∧ V.cell? ⟨W.heap.size + 1, 4, none⟩ = some (.int .i64 t.r.1) ∧ V.cell? ⟨W.heap.size + 1, 5, none⟩ = some (.int .i64 t.r.2.1) ∧ V.cell? ⟨W.heap.size + 1, 6, none⟩ = some (.bool t.r.2.2.1) ∧ V.cell? ⟨W.heap.size + 1, 7, none⟩ = some (.bool t.r.2.2.2) ∧ V.cell? ⟨W.heap.size + 1, 8, none⟩ = some (.int .i64 t.q.1) ∧ V.cell? ⟨W.heap.size + 1, 9, none⟩ = some (.int .i64 t.q.2.1) ∧ V.cell? ⟨W.heap.size + 1, 10, none⟩ = some (.bool t.q.2.2.1) ∧ V.cell? ⟨W.heap.size + 1, 11, none⟩ = some (.bool t.q.2.2.2) ∧ V.cell? ⟨W.heap.size + 1, 12, none⟩ = some (.slice qq ln cm)) ∧ Ext W2 V) := by
    intro V e
    have y := (HF.out.1.ext e).2.1
    have z := (HF.out.2.1.ext e).2.1
    exact ⟨⟨y.1, y.2.1, y.2.2.1, y.2.2.2.1, y.2.2.2.2.1, y.2.2.2.2.2.1, y.2.2.2.2.2.2.1, y.2.2.2.2.2.2.2.1, y.2.2.2.2.2.2.2.2.1, y.2.2.2.2.2.2.2.2.2.1, y.2.2.2.2.2.2.2.2.2.2.1, y.2.2.2.2.2.2.2.2.2.2.2.1, y.2.2.2.2.2.2.2.2.2.2.2.2, z.1, z.2.1, z.2.2.1, z.2.2.2.1, z.2.2.2.2.1, z.2.2.2.2.2.1, z.2.2.2.2.2.2.1, z.2.2.2.2.2.2.2.1, z.2.2.2.2.2.2.2.2.1, z.2.2.2.2.2.2.2.2.2.1, z.2.2.2.2.2.2.2.2.2.2.1, z.2.2.2.2.2.2.2.2.2.2.2.1, z.2.2.2.2.2.2.2.2.2.2.2.2⟩, e⟩
  go_region_held3 (fun V => (V.cell? ⟨W.heap.size, 0, none⟩ = some (.int .i64 t.k) ∧ V.cell? ⟨W.heap.size, 1, none⟩ = some (.int .i64 t.n) ∧ V.cell? ⟨W.heap.size, 2, none⟩ = some (.string (bs t.s)) ∧ V.cell? ⟨W.heap.size, 3, none⟩ = some (.int .i64 t.e) ∧ V.cell? ⟨W.heap.size, 4, none⟩ = some (.int .i64 t.r.1) ∧ V.cell? ⟨W.heap.size, 5, none⟩ = some (.int .i64 t.r.2.1) ∧ V.cell? ⟨W.heap.size, 6, none⟩ = some (.bool t.r.2.2.1) ∧ V.cell? ⟨W.heap.size, 7, none⟩ = some (.bool t.r.2.2.2) ∧ V.cell? ⟨W.heap.size, 8, none⟩ = some (.int .i64 t.q.1) ∧ V.cell? ⟨W.heap.size, 9, none⟩ = some (.int .i64 t.q.2.1) ∧ V.cell? ⟨W.heap.size, 10, none⟩ = some (.bool t.q.2.2.1) ∧ V.cell? ⟨W.heap.size, 11, none⟩ = some (.bool t.q.2.2.2) ∧ V.cell? ⟨W.heap.size, 12, none⟩ = some (.slice pp ln cl) ∧ V.cell? ⟨W.heap.size + 1, 0, none⟩ = some (.int .i64 t.k) ∧ V.cell? ⟨W.heap.size + 1, 1, none⟩ = some (.int .i64 t.n) ∧ V.cell? ⟨W.heap.size + 1, 2, none⟩ = some (.string (bs t.s)) ∧ V.cell? ⟨W.heap.size + 1, 3, none⟩ = some (.int .i64 t.e) ∧ V.cell? ⟨W.heap.size + 1, 4, none⟩ = some (.int .i64 t.r.1) ∧ V.cell? ⟨W.heap.size + 1, 5, none⟩ = some (.int .i64 t.r.2.1) ∧ V.cell? ⟨W.heap.size + 1, 6, none⟩ = some (.bool t.r.2.2.1) ∧ V.cell? ⟨W.heap.size + 1, 7, none⟩ = some (.bool t.r.2.2.2) ∧ V.cell? ⟨W.heap.size + 1, 8, none⟩ = some (.int .i64 t.q.1) ∧ V.cell? ⟨W.heap.size + 1, 9, none⟩ = some (.int .i64 t.q.2.1) ∧ V.cell? ⟨W.heap.size + 1, 10, none⟩ = some (.bool t.q.2.2.1) ∧ V.cell? ⟨W.heap.size + 1, 11, none⟩ = some (.bool t.q.2.2.2) ∧ V.cell? ⟨W.heap.size + 1, 12, none⟩ = some (.slice qq ln cm)) ∧ Ext W2 V)
    ((refine mkS.out _ ?_; with_reducible (repeat (first | assumption | exact Ext.refl _ | apply Ext.drew | apply Ext.drewN)); done))
    (first | (go_at_call_of 24 (Value.slice pp ln cl); refine (cP _).mono ?_; rintro e y1 ⟨rfl, E1⟩; have X1 : Ext W2 y1 := (by first | exact Ext.trans (by assumption) E1 | exact ((Ext.refl W2).drew).trans E1 | exact ((Ext.refl W2).drewN _).trans E1)) | (go_at_call_of 24 (Value.slice qq ln cm); refine (cQ _).mono ?_; rintro e y1 ⟨rfl, E1⟩; have X1 : Ext W2 y1 := (by first | exact Ext.trans (by assumption) E1 | exact ((Ext.refl W2).drew).trans E1 | exact ((Ext.refl W2).drewN _).trans E1)) | (go_at_call 23; refine (HEN.out _).mono ?_; rintro e y1 ⟨rfl, E1⟩; have X1 : Ext W2 y1 := (by first | exact Ext.trans (by assumption) E1 | exact ((Ext.refl W2).drew).trans E1); have HZ : Hid (Ext W2 y1) := X1))
  all_goals
    go_wp2_with fail
    go_ret
    exact ⟨rfl, HF.out.2.2.trans HZ.out⟩
theorem same_all (P : Nat → Prop) {t : T} (h : Bd t) : STr P t := by
  induction h with
  | mk t hl _ ih => exact same_true P t (by omega) ih

end Go.Proofs.YtmapfpeaaipdoaaGreatDoor
