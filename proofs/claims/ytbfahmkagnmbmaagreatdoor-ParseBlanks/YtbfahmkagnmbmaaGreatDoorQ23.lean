/-
  Same says yes of two trees that are one.
  A formula with two more blanks behind each word. Plain mathematics: no program in sight.
  Trees that are read have not too many parts. Plain mathematics: no program in sight.
-/
import Derived.Test.YtbfahmkagnmbmaaGreatDoorQ22
namespace Go.Proofs.YtbfahmkagnmbmaaGreatDoor
open Go.RowKit
set_option maxHeartbeats 6000000

/-- A tree's parts, if its kind has some. -/
def ptV (t : T) (v : Value) : Value := if t.k = 6 ∨ t.k = 7 ∨ t.k = 8 then v else .slice none 0 0
theorem ptV_yes {t : T} (h : t.k = 6 ∨ t.k = 7 ∨ t.k = 8) (v : Value) : ptV t v = v := if_pos h
theorem ptV_no {t : T} (h : ¬ (t.k = 6 ∨ t.k = 7 ∨ t.k = 8)) (v : Value) : ptV t v = .slice none 0 0 := if_neg h
theorem xparts_any (t : T) (pp : Option Addr) (ln cl : Nat) (W : World) : Calls Tryz.prog 36 #[.agg #[.int .i64 t.k, .int .i64 t.n, .string (bs t.s), .int .i64 t.e, .int .i64 t.r.1, .int .i64 t.r.2.1, .bool t.r.2.2.1, .bool t.r.2.2.2, .int .i64 t.q.1, .int .i64 t.q.2.1, .bool t.q.2.2.1, .bool t.q.2.2.2, .slice pp ln cl]] W fun e w' => e = .returned (ptV t (.slice pp ln cl)) ∧ Ext W w' := by
  by_cases h6 : t.k = 6
  · have e6 : (t.k == 6) = true := by rw [h6]; rfl
    rw [ptV_yes (.inl h6)]
    clear h6
    go_enter Tryz.func36, Tryz.ntmps36
    go_wp2_with fail
    go_ret
    exact ⟨rfl, (Ext.refl _).alloc _⟩
  by_cases h7 : t.k = 7
  · have e6 : (t.k == 6) = false := by rw [h7]; rfl
    have e7 : (t.k == 7) = true := by rw [h7]; rfl
    rw [ptV_yes (.inr (.inl h7))]
    clear h6 h7
    go_enter Tryz.func36, Tryz.ntmps36
    go_wp2_with fail
    go_ret
    exact ⟨rfl, (Ext.refl _).alloc _⟩
  by_cases h8 : t.k = 8
  · have e6 : (t.k == 6) = false := by rw [h8]; rfl
    have e7 : (t.k == 7) = false := by rw [h8]; rfl
    have e8 : (t.k == 8) = true := by rw [h8]; rfl
    rw [ptV_yes (.inr (.inr h8))]
    clear h6 h7 h8
    go_enter Tryz.func36, Tryz.ntmps36
    go_wp2_with fail
    go_ret
    exact ⟨rfl, (Ext.refl _).alloc _⟩
  have e6 : (t.k == 6) = false := by simpa using h6
  have e7 : (t.k == 7) = false := by simpa using h7
  have e8 : (t.k == 8) = false := by simpa using h8
  rw [ptV_no (by omega)]
  clear h6 h7 h8
  go_enter Tryz.func36, Tryz.ntmps36
  go_wp2_with fail
  go_ret
  exact ⟨rfl, (Ext.refl _).alloc _⟩
/-- A tree with not too many parts, and so on within. -/
inductive Bd : T → Prop
  | mk (t : T) : t.l.length ≤ 20 → (∀ x ∈ t.l, Bd x) → Bd t
/-- Same says yes of t, wherever it lies. -/
def STr (P : Nat → Prop) (t : T) : Prop := ∀ (W : World) (pp qq : Option Addr) (ln cl cm : Nat), IsL W P (.slice pp ln cl) t.l → IsL W P (.slice qq ln cm) t.l → Calls Tryz.prog 16 #[.agg #[.int .i64 t.k, .int .i64 t.n, .string (bs t.s), .int .i64 t.e, .int .i64 t.r.1, .int .i64 t.r.2.1, .bool t.r.2.2.1, .bool t.r.2.2.2, .int .i64 t.q.1, .int .i64 t.q.2.1, .bool t.q.2.2.1, .bool t.q.2.2.2, .slice pp ln cl], .agg #[.int .i64 t.k, .int .i64 t.n, .string (bs t.s), .int .i64 t.e, .int .i64 t.r.1, .int .i64 t.r.2.1, .bool t.r.2.2.1, .bool t.r.2.2.2, .int .i64 t.q.1, .int .i64 t.q.2.1, .bool t.q.2.2.1, .bool t.q.2.2.2, .slice qq ln cm]] W fun e w' => e = .returned (.bool true) ∧ Ext W w'
set_option maxRecDepth 100000 in
theorem equal_true (P : Nat → Prop) (l : List T) (pp qq : Option Addr) (ln cl cm : Nat) (w : World) (hl : l.length ≤ 1000) (hx : ∀ x ∈ l, STr P x) (h : IsL w P (.slice pp ln cl) l) (h' : IsL w P (.slice qq ln cm) l) :
    Calls Tryz.prog 35 #[.slice pp ln cl, .slice qq ln cm, .func (.func 16) #[] #[]] w fun e w' => e = .returned (.bool true) ∧ Ext w w' := by
  have hln : ln = l.length := by
    obtain ⟨p, c, h1, _⟩ := h.form
    cases h1; rfl
  have hent : ∀ args W, (callFunc 16 args).run Tryz.prog W = .ok (.enter 16 args) W := enters_of Tryz.func16 (by kernel_rfl) rfl
  have HX : Hid (∀ x ∈ l, STr P x) := hx
  have HI : Hid (IsL w P (.slice pp ln cl) l ∧ IsL w P (.slice qq ln cm) l) := ⟨h, h'⟩
  have HLN : Hid (ln = l.length) := hln
  have hl2 : ln ≤ 1000 := by omega
  have hnn : ((ln : Int) != (ln : Int)) = false := by simp
  have hnm : ((ln : Int) == (ln : Int)) = true := by simp
  clear hx h h' hln hl
  go_enter Tryz.func35, Tryz.ntmps35
  go_wp2_with fail
  go_loopw [7, 8, 9, 17] (fun _ _ _ i wr => ∃ j : Nat, j ≤ ln ∧ i = .int .i64 (j : Int) ∧ Ext w wr) (fun _ _ _ i _ => ln - (intOf i).toNat)
  case atStart => exact ⟨0, Nat.zero_le _, rfl, Ext.refl _⟩
  case round =>
    obtain ⟨j, hj, rfl, hE⟩ := hrel
    have HE : Hid (Ext w wr) := hE
    clear hE
    by_cases hlt : j < ln
    · have hltI : (j : Int) < (ln : Int) := by omega
      obtain ⟨gb, off, x, lv, hpp, hx1, hA1, hgb, hA2, hLx, he⟩ := (HI.out.1.ext HE.out).at (i := j) (by rw [← HLN.out]; exact hlt)
      obtain ⟨gc, ofc, y, lu, hqq, hy1, hA3, hgc, hA4, hLy, hf⟩ := (HI.out.2.ext HE.out).at (i := j) (by rw [← HLN.out]; exact hlt)
      have hxy : y = x := by rw [hx1] at hy1; exact (Option.some.inj hy1).symm
      subst hxy
      subst hpp
      subst hqq
      obtain ⟨pp, cl', hlv, hcl⟩ := hLx.form
      obtain ⟨qq, cm', hlu, hcm⟩ := hLy.form
      obtain ⟨ln', hln'⟩ : ∃ ln', y.l.length = ln' := ⟨_, rfl⟩
      rw [hln'] at hlv hlu
      subst hlv
      subst hlu
      have HC : Hid (Calls Tryz.prog 16 #[.agg #[.int .i64 y.k, .int .i64 y.n, .string (bs y.s), .int .i64 y.e, .int .i64 y.r.1, .int .i64 y.r.2.1, .bool y.r.2.2.1, .bool y.r.2.2.2, .int .i64 y.q.1, .int .i64 y.q.2.1, .bool y.q.2.2.1, .bool y.q.2.2.2, .slice pp ln' cl'], .agg #[.int .i64 y.k, .int .i64 y.n, .string (bs y.s), .int .i64 y.e, .int .i64 y.r.1, .int .i64 y.r.2.1, .bool y.r.2.2.1, .bool y.r.2.2.2, .int .i64 y.q.1, .int .i64 y.q.2.1, .bool y.q.2.2.1, .bool y.q.2.2.2, .slice qq ln' cm']] ((wr.alloc (.cells #[.int .i64 y.k, .int .i64 y.n, .string (bs y.s), .int .i64 y.e, .int .i64 y.r.1, .int .i64 y.r.2.1, .bool y.r.2.2.1, .bool y.r.2.2.2, .int .i64 y.q.1, .int .i64 y.q.2.1, .bool y.q.2.2.1, .bool y.q.2.2.2, .slice pp ln' cl'] 26)).alloc (.cells #[.int .i64 y.k, .int .i64 y.n, .string (bs y.s), .int .i64 y.e, .int .i64 y.r.1, .int .i64 y.r.2.1, .bool y.r.2.2.1, .bool y.r.2.2.2, .int .i64 y.q.1, .int .i64 y.q.2.1, .bool y.q.2.2.1, .bool y.q.2.2.2, .slice qq ln' cm'] 26)) fun e w' => e = .returned (.bool true) ∧ Ext ((wr.alloc (.cells #[.int .i64 y.k, .int .i64 y.n, .string (bs y.s), .int .i64 y.e, .int .i64 y.r.1, .int .i64 y.r.2.1, .bool y.r.2.2.1, .bool y.r.2.2.2, .int .i64 y.q.1, .int .i64 y.q.2.1, .bool y.q.2.2.1, .bool y.q.2.2.2, .slice pp ln' cl'] 26)).alloc (.cells #[.int .i64 y.k, .int .i64 y.n, .string (bs y.s), .int .i64 y.e, .int .i64 y.r.1, .int .i64 y.r.2.1, .bool y.r.2.2.1, .bool y.r.2.2.2, .int .i64 y.q.1, .int .i64 y.q.2.1, .bool y.q.2.2.1, .bool y.q.2.2.2, .slice qq ln' cm'] 26)) w') := HX.out y (List.mem_of_getElem? hx1) _ pp qq ln' cl' cm' (hLx.ext (((Ext.refl _).alloc _).alloc _)) (hLy.ext (((Ext.refl _).alloc _).alloc _))
      have e0 : wr.cell? ⟨gb, off + j * 13, none⟩ = some (.int .i64 y.k) := he 0 _ rfl
      have e1 : wr.cell? ⟨gb, off + j * 13 + 1, none⟩ = some (.int .i64 y.n) := he 1 _ rfl
      have e2 : wr.cell? ⟨gb, off + j * 13 + 2, none⟩ = some (.string (bs y.s)) := he 2 _ rfl
      have e3 : wr.cell? ⟨gb, off + j * 13 + 3, none⟩ = some (.int .i64 y.e) := he 3 _ rfl
      have e4 : wr.cell? ⟨gb, off + j * 13 + 4, none⟩ = some (.int .i64 y.r.1) := he 4 _ rfl
      have e5 : wr.cell? ⟨gb, off + j * 13 + 5, none⟩ = some (.int .i64 y.r.2.1) := he 5 _ rfl
      have e6 : wr.cell? ⟨gb, off + j * 13 + 6, none⟩ = some (.bool y.r.2.2.1) := he 6 _ rfl
      have e7 : wr.cell? ⟨gb, off + j * 13 + 7, none⟩ = some (.bool y.r.2.2.2) := he 7 _ rfl
      have e8 : wr.cell? ⟨gb, off + j * 13 + 8, none⟩ = some (.int .i64 y.q.1) := he 8 _ rfl
      have e9 : wr.cell? ⟨gb, off + j * 13 + 9, none⟩ = some (.int .i64 y.q.2.1) := he 9 _ rfl
      have e10 : wr.cell? ⟨gb, off + j * 13 + 10, none⟩ = some (.bool y.q.2.2.1) := he 10 _ rfl
      have e11 : wr.cell? ⟨gb, off + j * 13 + 11, none⟩ = some (.bool y.q.2.2.2) := he 11 _ rfl
      have e12 : wr.cell? ⟨gb, off + j * 13 + 12, none⟩ = some (.slice pp ln' cl') := he 12 _ rfl
      have f0 : wr.cell? ⟨gc, ofc + j * 13, none⟩ = some (.int .i64 y.k) := hf 0 _ rfl
      have f1 : wr.cell? ⟨gc, ofc + j * 13 + 1, none⟩ = some (.int .i64 y.n) := hf 1 _ rfl
      have f2 : wr.cell? ⟨gc, ofc + j * 13 + 2, none⟩ = some (.string (bs y.s)) := hf 2 _ rfl
      have f3 : wr.cell? ⟨gc, ofc + j * 13 + 3, none⟩ = some (.int .i64 y.e) := hf 3 _ rfl
      have f4 : wr.cell? ⟨gc, ofc + j * 13 + 4, none⟩ = some (.int .i64 y.r.1) := hf 4 _ rfl
      have f5 : wr.cell? ⟨gc, ofc + j * 13 + 5, none⟩ = some (.int .i64 y.r.2.1) := hf 5 _ rfl
      have f6 : wr.cell? ⟨gc, ofc + j * 13 + 6, none⟩ = some (.bool y.r.2.2.1) := hf 6 _ rfl
      have f7 : wr.cell? ⟨gc, ofc + j * 13 + 7, none⟩ = some (.bool y.r.2.2.2) := hf 7 _ rfl
      have f8 : wr.cell? ⟨gc, ofc + j * 13 + 8, none⟩ = some (.int .i64 y.q.1) := hf 8 _ rfl
      have f9 : wr.cell? ⟨gc, ofc + j * 13 + 9, none⟩ = some (.int .i64 y.q.2.1) := hf 9 _ rfl
      have f10 : wr.cell? ⟨gc, ofc + j * 13 + 10, none⟩ = some (.bool y.q.2.2.1) := hf 10 _ rfl
      have f11 : wr.cell? ⟨gc, ofc + j * 13 + 11, none⟩ = some (.bool y.q.2.2.2) := hf 11 _ rfl
      have f12 : wr.cell? ⟨gc, ofc + j * 13 + 12, none⟩ = some (.slice qq ln' cm') := hf 12 _ rfl
      clear hx1 hy1 hLx hLy he hf hcl hcm hln' hA1 hA2 hA3 hA4
      go_wp2_with fail
      refine HC.out.mono ?_
      rintro e w1 ⟨rfl, E1⟩
      have HE1 : Hid (Ext w w1) := ((HE.out.alloc _).alloc _).trans E1
      clear E1 e0 e1 e2 e3 e4 e5 e6 e7 e8 e9 e10 e11 e12 f0 f1 f2 f3 f4 f5 f6 f7 f8 f9 f10 f11 f12
      go_wp2_with fail
      go_roundw
      case rel => exact ⟨j + 1, by omega, by go_num, HE1.out⟩
      case measure => show ln - ((j : Int) + 1).toNat < ln - ((j : Int)).toNat; omega
    · have hltI : ¬ (j : Int) < (ln : Int) := by omega
      go_wp2_with fail
      go_ret
      exact ⟨rfl, HE.out⟩
set_option maxRecDepth 100000 in
theorem same_true (P : Nat → Prop) (t : T) (hl : t.l.length ≤ 1000) (hx : ∀ x ∈ t.l, STr P x) : STr P t := by
  intro W pp qq ln cl cm h h'
  have hnn : (t.k != t.k) = false := by simp
  have hnm : (t.k == t.k) = true := by simp
  have hN : (t.n == t.n) = true := by simp
  have hE : (t.e == t.e) = true := by simp
  have hS : ((bs t.s).toList == (bs t.s).toList) = true := by simp
  have hSn : ((bs t.s).toList != (bs t.s).toList) = false := by simp
  have cP := fun W => xparts_any t pp ln cl W
  have cQ := fun W => xparts_any t qq ln cm W
  have HEQ : Hid (∀ W', Ext W W' → Calls Tryz.prog 35 #[.slice pp ln cl, .slice qq ln cm, .func (.func 16) #[] #[]] W' fun e w' => e = .returned (.bool true) ∧ Ext W' w') := fun W' e => equal_true P t.l pp qq ln cl cm W' hl hx (h.ext e) (h'.ext e)
  have HEN : Hid (∀ W', Calls Tryz.prog 35 #[.slice none 0 0, .slice none 0 0, .func (.func 16) #[] #[]] W' fun e w' => e = .returned (.bool true) ∧ Ext W' w') := fun W' => equal_true P [] none none 0 0 0 W' (by simp) (fun x hx => by cases hx) .nil .nil
  clear hl hx h h'
  by_cases k0 : t.k = 0
  · have e0 : (t.k == 0) = true := by rw [k0]; rfl
    clear k0 cP cQ
    go_enter Tryz.func16, Tryz.ntmps16
    go_wp2_with fail
    go_ret
    exact ⟨rfl, ((Ext.refl _).alloc _).alloc _⟩
  have e0 : (t.k == 0) = false := by simpa using k0
  by_cases k2 : t.k = 2
  · have e2 : (t.k == 2) = true := by rw [k2]; rfl
    clear k0 k2 cP cQ
    go_enter Tryz.func16, Tryz.ntmps16
    go_wp2_with fail
    go_ret
    exact ⟨rfl, ((Ext.refl _).alloc _).alloc _⟩
  have e2 : (t.k == 2) = false := by simpa using k2
  by_cases k1 : t.k = 1
  · have e1 : (t.k == 1) = true := by rw [k1]; rfl
    clear k0 k1 k2 cP cQ
    go_enter Tryz.func16, Tryz.ntmps16
    go_wp2_with fail
    go_ret
    exact ⟨rfl, ((Ext.refl _).alloc _).alloc _⟩
  have e1 : (t.k == 1) = false := by simpa using k1
  by_cases k3 : t.k = 3
  · have e3 : (t.k == 3) = true := by rw [k3]; rfl
    clear k0 k1 k2 k3 cP cQ
    go_enter Tryz.func16, Tryz.ntmps16
    go_wp2_with fail
    go_ret
    exact ⟨rfl, ((Ext.refl _).alloc _).alloc _⟩
  have e3 : (t.k == 3) = false := by simpa using k3
  by_cases k4 : t.k = 4
  · have e4 : (t.k == 4) = true := by rw [k4]; rfl
    clear k0 k1 k2 k3 k4 cP cQ
    go_enter Tryz.func16, Tryz.ntmps16
    go_wp2_with fail
    go_ret
    exact ⟨rfl, ((Ext.refl _).alloc _).alloc _⟩
  have e4 : (t.k == 4) = false := by simpa using k4
  by_cases k5 : t.k = 5
  · have e5 : (t.k == 5) = true := by rw [k5]; rfl
    clear k0 k1 k2 k3 k4 k5 cP cQ
    go_enter Tryz.func16, Tryz.ntmps16
    go_wp2_with fail
    go_ret
    exact ⟨rfl, ((Ext.refl _).alloc _).alloc _⟩
  have e5 : (t.k == 5) = false := by simpa using k5
  by_cases k6 : t.k = 6
  · have e7 : (t.k == 7) = false := by rw [k6]; rfl
    have e8 : (t.k == 8) = false := by rw [k6]; rfl
    simp only [ptV_yes (.inl k6)] at cP cQ
    clear k0 k1 k2 k3 k4 k5 k6
    go_enter Tryz.func16, Tryz.ntmps16
    go_wp2_with fail
    have HF : Hid (Blk13 ((W.alloc (.cells #[.int .i64 t.k, .int .i64 t.n, .string (bs t.s), .int .i64 t.e, .int .i64 t.r.1, .int .i64 t.r.2.1, .bool t.r.2.2.1, .bool t.r.2.2.2, .int .i64 t.q.1, .int .i64 t.q.2.1, .bool t.q.2.2.1, .bool t.q.2.2.2, .slice pp ln cl] 26)).alloc (.cells #[.int .i64 t.k, .int .i64 t.n, .string (bs t.s), .int .i64 t.e, .int .i64 t.r.1, .int .i64 t.r.2.1, .bool t.r.2.2.1, .bool t.r.2.2.2, .int .i64 t.q.1, .int .i64 t.q.2.1, .bool t.q.2.2.1, .bool t.q.2.2.2, .slice qq ln cm] 26)) W.heap.size (.int .i64 t.k) (.int .i64 t.n) (.string (bs t.s)) (.int .i64 t.e) (.int .i64 t.r.1) (.int .i64 t.r.2.1) (.bool t.r.2.2.1) (.bool t.r.2.2.2) (.int .i64 t.q.1) (.int .i64 t.q.2.1) (.bool t.q.2.2.1) (.bool t.q.2.2.2) (.slice pp ln cl) ∧ Blk13 ((W.alloc (.cells #[.int .i64 t.k, .int .i64 t.n, .string (bs t.s), .int .i64 t.e, .int .i64 t.r.1, .int .i64 t.r.2.1, .bool t.r.2.2.1, .bool t.r.2.2.2, .int .i64 t.q.1, .int .i64 t.q.2.1, .bool t.q.2.2.1, .bool t.q.2.2.2, .slice pp ln cl] 26)).alloc (.cells #[.int .i64 t.k, .int .i64 t.n, .string (bs t.s), .int .i64 t.e, .int .i64 t.r.1, .int .i64 t.r.2.1, .bool t.r.2.2.1, .bool t.r.2.2.2, .int .i64 t.q.1, .int .i64 t.q.2.1, .bool t.q.2.2.1, .bool t.q.2.2.2, .slice qq ln cm] 26)) (W.heap.size + 1) (.int .i64 t.k) (.int .i64 t.n) (.string (bs t.s)) (.int .i64 t.e) (.int .i64 t.r.1) (.int .i64 t.r.2.1) (.bool t.r.2.2.1) (.bool t.r.2.2.2) (.int .i64 t.q.1) (.int .i64 t.q.2.1) (.bool t.q.2.2.1) (.bool t.q.2.2.2) (.slice qq ln cm) ∧ Ext W ((W.alloc (.cells #[.int .i64 t.k, .int .i64 t.n, .string (bs t.s), .int .i64 t.e, .int .i64 t.r.1, .int .i64 t.r.2.1, .bool t.r.2.2.1, .bool t.r.2.2.2, .int .i64 t.q.1, .int .i64 t.q.2.1, .bool t.q.2.2.1, .bool t.q.2.2.2, .slice pp ln cl] 26)).alloc (.cells #[.int .i64 t.k, .int .i64 t.n, .string (bs t.s), .int .i64 t.e, .int .i64 t.r.1, .int .i64 t.r.2.1, .bool t.r.2.2.1, .bool t.r.2.2.2, .int .i64 t.q.1, .int .i64 t.q.2.1, .bool t.q.2.2.1, .bool t.q.2.2.2, .slice qq ln cm] 26))) := ⟨blk13_top rfl ((Ext.refl _).alloc _), blk13_top (by simp) (Ext.refl _), ((Ext.refl _).alloc _).alloc _⟩
    generalize (W.alloc (.cells #[.int .i64 t.k, .int .i64 t.n, .string (bs t.s), .int .i64 t.e, .int .i64 t.r.1, .int .i64 t.r.2.1, .bool t.r.2.2.1, .bool t.r.2.2.2, .int .i64 t.q.1, .int .i64 t.q.2.1, .bool t.q.2.2.1, .bool t.q.2.2.2, .slice pp ln cl] 26)).alloc (.cells #[.int .i64 t.k, .int .i64 t.n, .string (bs t.s), .int .i64 t.e, .int .i64 t.r.1, .int .i64 t.r.2.1, .bool t.r.2.2.1, .bool t.r.2.2.2, .int .i64 t.q.1, .int .i64 t.q.2.1, .bool t.q.2.2.1, .bool t.q.2.2.2, .slice qq ln cm] 26) = W2 at HF ⊢
    have mkS : Hid (∀ V, Ext W2 V → (V.cell? ⟨W.heap.size, 0, none⟩ = some (.int .i64 t.k) ∧ V.cell? ⟨W.heap.size, 1, none⟩ = some (.int .i64 t.n) ∧ V.cell? ⟨W.heap.size, 2, none⟩ = some (.string (bs t.s)) ∧ V.cell? ⟨W.heap.size, 3, none⟩ = some (.int .i64 t.e) ∧ V.cell? ⟨W.heap.size, 4, none⟩ = some (.int .i64 t.r.1) ∧ V.cell? ⟨W.heap.size, 5, none⟩ = some (.int .i64 t.r.2.1) ∧ V.cell? ⟨W.heap.size, 6, none⟩ = some (.bool t.r.2.2.1) ∧ V.cell? ⟨W.heap.size, 7, none⟩ = some (.bool t.r.2.2.2) ∧ V.cell? ⟨W.heap.size, 8, none⟩ = some (.int .i64 t.q.1) ∧ V.cell? ⟨W.heap.size, 9, none⟩ = some (.int .i64 t.q.2.1) ∧ V.cell? ⟨W.heap.size, 10, none⟩ = some (.bool t.q.2.2.1) ∧ V.cell? ⟨W.heap.size, 11, none⟩ = some (.bool t.q.2.2.2) ∧ V.cell? ⟨W.heap.size, 12, none⟩ = some (.slice pp ln cl) ∧ V.cell? ⟨W.heap.size + 1, 0, none⟩ = some (.int .i64 t.k) ∧ V.cell? ⟨W.heap.size + 1, 1, none⟩ = some (.int .i64 t.n) ∧ V.cell? ⟨W.heap.size + 1, 2, none⟩ = some (.string (bs t.s)) ∧ V.cell? ⟨W.heap.size + 1, 3, none⟩ = some (.int .i64 t.e) ∧ V.cell? ⟨W.heap.size + 1, 4, none⟩ = some (.int .i64 t.r.1) ∧ V.cell? ⟨W.heap.size + 1, 5, none⟩ = some (.int .i64 t.r.2.1) ∧ V.cell? ⟨W.heap.size + 1, 6, none⟩ = some (.bool t.r.2.2.1) ∧ V.cell? ⟨W.heap.size + 1, 7, none⟩ = some (.bool t.r.2.2.2) ∧ V.cell? ⟨W.heap.size + 1, 8, none⟩ = some (.int .i64 t.q.1) ∧ V.cell? ⟨W.heap.size + 1, 9, none⟩ = some (.int .i64 t.q.2.1) ∧ V.cell? ⟨W.heap.size + 1, 10, none⟩ = some (.bool t.q.2.2.1) ∧ V.cell? ⟨W.heap.size + 1, 11, none⟩ = some (.bool t.q.2.2.2) ∧ V.cell? ⟨W.heap.size + 1, 12, none⟩ = some (.slice qq ln cm)) ∧ Ext W2 V) := by
      intro V e
      have y := (HF.out.1.ext e).2.1
      have z := (HF.out.2.1.ext e).2.1
      exact ⟨⟨y.1, y.2.1, y.2.2.1, y.2.2.2.1, y.2.2.2.2.1, y.2.2.2.2.2.1, y.2.2.2.2.2.2.1, y.2.2.2.2.2.2.2.1, y.2.2.2.2.2.2.2.2.1, y.2.2.2.2.2.2.2.2.2.1, y.2.2.2.2.2.2.2.2.2.2.1, y.2.2.2.2.2.2.2.2.2.2.2.1, y.2.2.2.2.2.2.2.2.2.2.2.2, z.1, z.2.1, z.2.2.1, z.2.2.2.1, z.2.2.2.2.1, z.2.2.2.2.2.1, z.2.2.2.2.2.2.1, z.2.2.2.2.2.2.2.1, z.2.2.2.2.2.2.2.2.1, z.2.2.2.2.2.2.2.2.2.1, z.2.2.2.2.2.2.2.2.2.2.1, z.2.2.2.2.2.2.2.2.2.2.2.1, z.2.2.2.2.2.2.2.2.2.2.2.2⟩, e⟩
    go_region_held3 (fun V => (V.cell? ⟨W.heap.size, 0, none⟩ = some (.int .i64 t.k) ∧ V.cell? ⟨W.heap.size, 1, none⟩ = some (.int .i64 t.n) ∧ V.cell? ⟨W.heap.size, 2, none⟩ = some (.string (bs t.s)) ∧ V.cell? ⟨W.heap.size, 3, none⟩ = some (.int .i64 t.e) ∧ V.cell? ⟨W.heap.size, 4, none⟩ = some (.int .i64 t.r.1) ∧ V.cell? ⟨W.heap.size, 5, none⟩ = some (.int .i64 t.r.2.1) ∧ V.cell? ⟨W.heap.size, 6, none⟩ = some (.bool t.r.2.2.1) ∧ V.cell? ⟨W.heap.size, 7, none⟩ = some (.bool t.r.2.2.2) ∧ V.cell? ⟨W.heap.size, 8, none⟩ = some (.int .i64 t.q.1) ∧ V.cell? ⟨W.heap.size, 9, none⟩ = some (.int .i64 t.q.2.1) ∧ V.cell? ⟨W.heap.size, 10, none⟩ = some (.bool t.q.2.2.1) ∧ V.cell? ⟨W.heap.size, 11, none⟩ = some (.bool t.q.2.2.2) ∧ V.cell? ⟨W.heap.size, 12, none⟩ = some (.slice pp ln cl) ∧ V.cell? ⟨W.heap.size + 1, 0, none⟩ = some (.int .i64 t.k) ∧ V.cell? ⟨W.heap.size + 1, 1, none⟩ = some (.int .i64 t.n) ∧ V.cell? ⟨W.heap.size + 1, 2, none⟩ = some (.string (bs t.s)) ∧ V.cell? ⟨W.heap.size + 1, 3, none⟩ = some (.int .i64 t.e) ∧ V.cell? ⟨W.heap.size + 1, 4, none⟩ = some (.int .i64 t.r.1) ∧ V.cell? ⟨W.heap.size + 1, 5, none⟩ = some (.int .i64 t.r.2.1) ∧ V.cell? ⟨W.heap.size + 1, 6, none⟩ = some (.bool t.r.2.2.1) ∧ V.cell? ⟨W.heap.size + 1, 7, none⟩ = some (.bool t.r.2.2.2) ∧ V.cell? ⟨W.heap.size + 1, 8, none⟩ = some (.int .i64 t.q.1) ∧ V.cell? ⟨W.heap.size + 1, 9, none⟩ = some (.int .i64 t.q.2.1) ∧ V.cell? ⟨W.heap.size + 1, 10, none⟩ = some (.bool t.q.2.2.1) ∧ V.cell? ⟨W.heap.size + 1, 11, none⟩ = some (.bool t.q.2.2.2) ∧ V.cell? ⟨W.heap.size + 1, 12, none⟩ = some (.slice qq ln cm)) ∧ Ext W2 V)
      ((refine mkS.out _ ?_; with_reducible (repeat (first | assumption | exact Ext.refl _ | apply Ext.drew | apply Ext.drewN)); done))
      (first | (go_at_call_of 36 (Value.slice pp ln cl); refine (cP _).mono ?_; rintro e y1 ⟨rfl, E1⟩; have X1 : Ext W2 y1 := (by first | exact Ext.trans (by assumption) E1 | exact ((Ext.refl W2).drew).trans E1 | exact ((Ext.refl W2).drewN _).trans E1)) | (go_at_call_of 36 (Value.slice qq ln cm); refine (cQ _).mono ?_; rintro e y1 ⟨rfl, E1⟩; have X1 : Ext W2 y1 := (by first | exact Ext.trans (by assumption) E1 | exact ((Ext.refl W2).drew).trans E1 | exact ((Ext.refl W2).drewN _).trans E1)) | (go_at_call 35; refine (HEQ.out _ (HF.out.2.2.trans (by assumption))).mono ?_; rintro e y1 ⟨rfl, E1⟩; have X1 : Ext W2 y1 := (by first | exact Ext.trans (by assumption) E1 | exact ((Ext.refl W2).drew).trans E1); have HZ : Hid (Ext W2 y1) := X1))
    all_goals
      go_wp2_with fail
      go_ret
      exact ⟨rfl, HF.out.2.2.trans HZ.out⟩
  by_cases k7 : t.k = 7
  · have e7 : (t.k == 7) = true := by rw [k7]; rfl
    simp only [ptV_yes (.inr (.inl k7))] at cP cQ
    clear k0 k1 k2 k3 k4 k5 k6 k7
    go_enter Tryz.func16, Tryz.ntmps16
    go_wp2_with fail
    have HF : Hid (Blk13 ((W.alloc (.cells #[.int .i64 t.k, .int .i64 t.n, .string (bs t.s), .int .i64 t.e, .int .i64 t.r.1, .int .i64 t.r.2.1, .bool t.r.2.2.1, .bool t.r.2.2.2, .int .i64 t.q.1, .int .i64 t.q.2.1, .bool t.q.2.2.1, .bool t.q.2.2.2, .slice pp ln cl] 26)).alloc (.cells #[.int .i64 t.k, .int .i64 t.n, .string (bs t.s), .int .i64 t.e, .int .i64 t.r.1, .int .i64 t.r.2.1, .bool t.r.2.2.1, .bool t.r.2.2.2, .int .i64 t.q.1, .int .i64 t.q.2.1, .bool t.q.2.2.1, .bool t.q.2.2.2, .slice qq ln cm] 26)) W.heap.size (.int .i64 t.k) (.int .i64 t.n) (.string (bs t.s)) (.int .i64 t.e) (.int .i64 t.r.1) (.int .i64 t.r.2.1) (.bool t.r.2.2.1) (.bool t.r.2.2.2) (.int .i64 t.q.1) (.int .i64 t.q.2.1) (.bool t.q.2.2.1) (.bool t.q.2.2.2) (.slice pp ln cl) ∧ Blk13 ((W.alloc (.cells #[.int .i64 t.k, .int .i64 t.n, .string (bs t.s), .int .i64 t.e, .int .i64 t.r.1, .int .i64 t.r.2.1, .bool t.r.2.2.1, .bool t.r.2.2.2, .int .i64 t.q.1, .int .i64 t.q.2.1, .bool t.q.2.2.1, .bool t.q.2.2.2, .slice pp ln cl] 26)).alloc (.cells #[.int .i64 t.k, .int .i64 t.n, .string (bs t.s), .int .i64 t.e, .int .i64 t.r.1, .int .i64 t.r.2.1, .bool t.r.2.2.1, .bool t.r.2.2.2, .int .i64 t.q.1, .int .i64 t.q.2.1, .bool t.q.2.2.1, .bool t.q.2.2.2, .slice qq ln cm] 26)) (W.heap.size + 1) (.int .i64 t.k) (.int .i64 t.n) (.string (bs t.s)) (.int .i64 t.e) (.int .i64 t.r.1) (.int .i64 t.r.2.1) (.bool t.r.2.2.1) (.bool t.r.2.2.2) (.int .i64 t.q.1) (.int .i64 t.q.2.1) (.bool t.q.2.2.1) (.bool t.q.2.2.2) (.slice qq ln cm) ∧ Ext W ((W.alloc (.cells #[.int .i64 t.k, .int .i64 t.n, .string (bs t.s), .int .i64 t.e, .int .i64 t.r.1, .int .i64 t.r.2.1, .bool t.r.2.2.1, .bool t.r.2.2.2, .int .i64 t.q.1, .int .i64 t.q.2.1, .bool t.q.2.2.1, .bool t.q.2.2.2, .slice pp ln cl] 26)).alloc (.cells #[.int .i64 t.k, .int .i64 t.n, .string (bs t.s), .int .i64 t.e, .int .i64 t.r.1, .int .i64 t.r.2.1, .bool t.r.2.2.1, .bool t.r.2.2.2, .int .i64 t.q.1, .int .i64 t.q.2.1, .bool t.q.2.2.1, .bool t.q.2.2.2, .slice qq ln cm] 26))) := ⟨blk13_top rfl ((Ext.refl _).alloc _), blk13_top (by simp) (Ext.refl _), ((Ext.refl _).alloc _).alloc _⟩
    generalize (W.alloc (.cells #[.int .i64 t.k, .int .i64 t.n, .string (bs t.s), .int .i64 t.e, .int .i64 t.r.1, .int .i64 t.r.2.1, .bool t.r.2.2.1, .bool t.r.2.2.2, .int .i64 t.q.1, .int .i64 t.q.2.1, .bool t.q.2.2.1, .bool t.q.2.2.2, .slice pp ln cl] 26)).alloc (.cells #[.int .i64 t.k, .int .i64 t.n, .string (bs t.s), .int .i64 t.e, .int .i64 t.r.1, .int .i64 t.r.2.1, .bool t.r.2.2.1, .bool t.r.2.2.2, .int .i64 t.q.1, .int .i64 t.q.2.1, .bool t.q.2.2.1, .bool t.q.2.2.2, .slice qq ln cm] 26) = W2 at HF ⊢
    have mkS : Hid (∀ V, Ext W2 V → (V.cell? ⟨W.heap.size, 0, none⟩ = some (.int .i64 t.k) ∧ V.cell? ⟨W.heap.size, 1, none⟩ = some (.int .i64 t.n) ∧ V.cell? ⟨W.heap.size, 2, none⟩ = some (.string (bs t.s)) ∧ V.cell? ⟨W.heap.size, 3, none⟩ = some (.int .i64 t.e) ∧ V.cell? ⟨W.heap.size, 4, none⟩ = some (.int .i64 t.r.1) ∧ V.cell? ⟨W.heap.size, 5, none⟩ = some (.int .i64 t.r.2.1) ∧ V.cell? ⟨W.heap.size, 6, none⟩ = some (.bool t.r.2.2.1) ∧ V.cell? ⟨W.heap.size, 7, none⟩ = some (.bool t.r.2.2.2) ∧ V.cell? ⟨W.heap.size, 8, none⟩ = some (.int .i64 t.q.1) ∧ V.cell? ⟨W.heap.size, 9, none⟩ = some (.int .i64 t.q.2.1) ∧ V.cell? ⟨W.heap.size, 10, none⟩ = some (.bool t.q.2.2.1) ∧ V.cell? ⟨W.heap.size, 11, none⟩ = some (.bool t.q.2.2.2) ∧ V.cell? ⟨W.heap.size, 12, none⟩ = some (.slice pp ln cl) ∧ V.cell? ⟨W.heap.size + 1, 0, none⟩ = some (.int .i64 t.k) ∧ V.cell? ⟨W.heap.size + 1, 1, none⟩ = some (.int .i64 t.n) ∧ V.cell? ⟨W.heap.size + 1, 2, none⟩ = some (.string (bs t.s)) ∧ V.cell? ⟨W.heap.size + 1, 3, none⟩ = some (.int .i64 t.e) ∧ V.cell? ⟨W.heap.size + 1, 4, none⟩ = some (.int .i64 t.r.1) ∧ V.cell? ⟨W.heap.size + 1, 5, none⟩ = some (.int .i64 t.r.2.1) ∧ V.cell? ⟨W.heap.size + 1, 6, none⟩ = some (.bool t.r.2.2.1) ∧ V.cell? ⟨W.heap.size + 1, 7, none⟩ = some (.bool t.r.2.2.2) ∧ V.cell? ⟨W.heap.size + 1, 8, none⟩ = some (.int .i64 t.q.1) ∧ V.cell? ⟨W.heap.size + 1, 9, none⟩ = some (.int .i64 t.q.2.1) ∧ V.cell? ⟨W.heap.size + 1, 10, none⟩ = some (.bool t.q.2.2.1) ∧ V.cell? ⟨W.heap.size + 1, 11, none⟩ = some (.bool t.q.2.2.2) ∧ V.cell? ⟨W.heap.size + 1, 12, none⟩ = some (.slice qq ln cm)) ∧ Ext W2 V) := by
      intro V e
      have y := (HF.out.1.ext e).2.1
      have z := (HF.out.2.1.ext e).2.1
      exact ⟨⟨y.1, y.2.1, y.2.2.1, y.2.2.2.1, y.2.2.2.2.1, y.2.2.2.2.2.1, y.2.2.2.2.2.2.1, y.2.2.2.2.2.2.2.1, y.2.2.2.2.2.2.2.2.1, y.2.2.2.2.2.2.2.2.2.1, y.2.2.2.2.2.2.2.2.2.2.1, y.2.2.2.2.2.2.2.2.2.2.2.1, y.2.2.2.2.2.2.2.2.2.2.2.2, z.1, z.2.1, z.2.2.1, z.2.2.2.1, z.2.2.2.2.1, z.2.2.2.2.2.1, z.2.2.2.2.2.2.1, z.2.2.2.2.2.2.2.1, z.2.2.2.2.2.2.2.2.1, z.2.2.2.2.2.2.2.2.2.1, z.2.2.2.2.2.2.2.2.2.2.1, z.2.2.2.2.2.2.2.2.2.2.2.1, z.2.2.2.2.2.2.2.2.2.2.2.2⟩, e⟩
    go_region_held3 (fun V => (V.cell? ⟨W.heap.size, 0, none⟩ = some (.int .i64 t.k) ∧ V.cell? ⟨W.heap.size, 1, none⟩ = some (.int .i64 t.n) ∧ V.cell? ⟨W.heap.size, 2, none⟩ = some (.string (bs t.s)) ∧ V.cell? ⟨W.heap.size, 3, none⟩ = some (.int .i64 t.e) ∧ V.cell? ⟨W.heap.size, 4, none⟩ = some (.int .i64 t.r.1) ∧ V.cell? ⟨W.heap.size, 5, none⟩ = some (.int .i64 t.r.2.1) ∧ V.cell? ⟨W.heap.size, 6, none⟩ = some (.bool t.r.2.2.1) ∧ V.cell? ⟨W.heap.size, 7, none⟩ = some (.bool t.r.2.2.2) ∧ V.cell? ⟨W.heap.size, 8, none⟩ = some (.int .i64 t.q.1) ∧ V.cell? ⟨W.heap.size, 9, none⟩ = some (.int .i64 t.q.2.1) ∧ V.cell? ⟨W.heap.size, 10, none⟩ = some (.bool t.q.2.2.1) ∧ V.cell? ⟨W.heap.size, 11, none⟩ = some (.bool t.q.2.2.2) ∧ V.cell? ⟨W.heap.size, 12, none⟩ = some (.slice pp ln cl) ∧ V.cell? ⟨W.heap.size + 1, 0, none⟩ = some (.int .i64 t.k) ∧ V.cell? ⟨W.heap.size + 1, 1, none⟩ = some (.int .i64 t.n) ∧ V.cell? ⟨W.heap.size + 1, 2, none⟩ = some (.string (bs t.s)) ∧ V.cell? ⟨W.heap.size + 1, 3, none⟩ = some (.int .i64 t.e) ∧ V.cell? ⟨W.heap.size + 1, 4, none⟩ = some (.int .i64 t.r.1) ∧ V.cell? ⟨W.heap.size + 1, 5, none⟩ = some (.int .i64 t.r.2.1) ∧ V.cell? ⟨W.heap.size + 1, 6, none⟩ = some (.bool t.r.2.2.1) ∧ V.cell? ⟨W.heap.size + 1, 7, none⟩ = some (.bool t.r.2.2.2) ∧ V.cell? ⟨W.heap.size + 1, 8, none⟩ = some (.int .i64 t.q.1) ∧ V.cell? ⟨W.heap.size + 1, 9, none⟩ = some (.int .i64 t.q.2.1) ∧ V.cell? ⟨W.heap.size + 1, 10, none⟩ = some (.bool t.q.2.2.1) ∧ V.cell? ⟨W.heap.size + 1, 11, none⟩ = some (.bool t.q.2.2.2) ∧ V.cell? ⟨W.heap.size + 1, 12, none⟩ = some (.slice qq ln cm)) ∧ Ext W2 V)
      ((refine mkS.out _ ?_; with_reducible (repeat (first | assumption | exact Ext.refl _ | apply Ext.drew | apply Ext.drewN)); done))
      (first | (go_at_call_of 36 (Value.slice pp ln cl); refine (cP _).mono ?_; rintro e y1 ⟨rfl, E1⟩; have X1 : Ext W2 y1 := (by first | exact Ext.trans (by assumption) E1 | exact ((Ext.refl W2).drew).trans E1 | exact ((Ext.refl W2).drewN _).trans E1)) | (go_at_call_of 36 (Value.slice qq ln cm); refine (cQ _).mono ?_; rintro e y1 ⟨rfl, E1⟩; have X1 : Ext W2 y1 := (by first | exact Ext.trans (by assumption) E1 | exact ((Ext.refl W2).drew).trans E1 | exact ((Ext.refl W2).drewN _).trans E1)) | (go_at_call 35; refine (HEQ.out _ (HF.out.2.2.trans (by assumption))).mono ?_; rintro e y1 ⟨rfl, E1⟩; have X1 : Ext W2 y1 := (by first | exact Ext.trans (by assumption) E1 | exact ((Ext.refl W2).drew).trans E1); have HZ : Hid (Ext W2 y1) := X1))
    all_goals
      go_wp2_with fail
      go_ret
      exact ⟨rfl, HF.out.2.2.trans HZ.out⟩
  by_cases k8 : t.k = 8
  · have e7 : (t.k == 7) = false := by rw [k8]; rfl
    have e8 : (t.k == 8) = true := by rw [k8]; rfl
    simp only [ptV_yes (.inr (.inr k8))] at cP cQ
    clear k0 k1 k2 k3 k4 k5 k6 k7 k8
    go_enter Tryz.func16, Tryz.ntmps16
    go_wp2_with fail
    have HF : Hid (Blk13 ((W.alloc (.cells #[.int .i64 t.k, .int .i64 t.n, .string (bs t.s), .int .i64 t.e, .int .i64 t.r.1, .int .i64 t.r.2.1, .bool t.r.2.2.1, .bool t.r.2.2.2, .int .i64 t.q.1, .int .i64 t.q.2.1, .bool t.q.2.2.1, .bool t.q.2.2.2, .slice pp ln cl] 26)).alloc (.cells #[.int .i64 t.k, .int .i64 t.n, .string (bs t.s), .int .i64 t.e, .int .i64 t.r.1, .int .i64 t.r.2.1, .bool t.r.2.2.1, .bool t.r.2.2.2, .int .i64 t.q.1, .int .i64 t.q.2.1, .bool t.q.2.2.1, .bool t.q.2.2.2, .slice qq ln cm] 26)) W.heap.size (.int .i64 t.k) (.int .i64 t.n) (.string (bs t.s)) (.int .i64 t.e) (.int .i64 t.r.1) (.int .i64 t.r.2.1) (.bool t.r.2.2.1) (.bool t.r.2.2.2) (.int .i64 t.q.1) (.int .i64 t.q.2.1) (.bool t.q.2.2.1) (.bool t.q.2.2.2) (.slice pp ln cl) ∧ Blk13 ((W.alloc (.cells #[.int .i64 t.k, .int .i64 t.n, .string (bs t.s), .int .i64 t.e, .int .i64 t.r.1, .int .i64 t.r.2.1, .bool t.r.2.2.1, .bool t.r.2.2.2, .int .i64 t.q.1, .int .i64 t.q.2.1, .bool t.q.2.2.1, .bool t.q.2.2.2, .slice pp ln cl] 26)).alloc (.cells #[.int .i64 t.k, .int .i64 t.n, .string (bs t.s), .int .i64 t.e, .int .i64 t.r.1, .int .i64 t.r.2.1, .bool t.r.2.2.1, .bool t.r.2.2.2, .int .i64 t.q.1, .int .i64 t.q.2.1, .bool t.q.2.2.1, .bool t.q.2.2.2, .slice qq ln cm] 26)) (W.heap.size + 1) (.int .i64 t.k) (.int .i64 t.n) (.string (bs t.s)) (.int .i64 t.e) (.int .i64 t.r.1) (.int .i64 t.r.2.1) (.bool t.r.2.2.1) (.bool t.r.2.2.2) (.int .i64 t.q.1) (.int .i64 t.q.2.1) (.bool t.q.2.2.1) (.bool t.q.2.2.2) (.slice qq ln cm) ∧ Ext W ((W.alloc (.cells #[.int .i64 t.k, .int .i64 t.n, .string (bs t.s), .int .i64 t.e, .int .i64 t.r.1, .int .i64 t.r.2.1, .bool t.r.2.2.1, .bool t.r.2.2.2, .int .i64 t.q.1, .int .i64 t.q.2.1, .bool t.q.2.2.1, .bool t.q.2.2.2, .slice pp ln cl] 26)).alloc (.cells #[.int .i64 t.k, .int .i64 t.n, .string (bs t.s), .int .i64 t.e, .int .i64 t.r.1, .int .i64 t.r.2.1, .bool t.r.2.2.1, .bool t.r.2.2.2, .int .i64 t.q.1, .int .i64 t.q.2.1, .bool t.q.2.2.1, .bool t.q.2.2.2, .slice qq ln cm] 26))) := ⟨blk13_top rfl ((Ext.refl _).alloc _), blk13_top (by simp) (Ext.refl _), ((Ext.refl _).alloc _).alloc _⟩
    generalize (W.alloc (.cells #[.int .i64 t.k, .int .i64 t.n, .string (bs t.s), .int .i64 t.e, .int .i64 t.r.1, .int .i64 t.r.2.1, .bool t.r.2.2.1, .bool t.r.2.2.2, .int .i64 t.q.1, .int .i64 t.q.2.1, .bool t.q.2.2.1, .bool t.q.2.2.2, .slice pp ln cl] 26)).alloc (.cells #[.int .i64 t.k, .int .i64 t.n, .string (bs t.s), .int .i64 t.e, .int .i64 t.r.1, .int .i64 t.r.2.1, .bool t.r.2.2.1, .bool t.r.2.2.2, .int .i64 t.q.1, .int .i64 t.q.2.1, .bool t.q.2.2.1, .bool t.q.2.2.2, .slice qq ln cm] 26) = W2 at HF ⊢
    have mkS : Hid (∀ V, Ext W2 V → (V.cell? ⟨W.heap.size, 0, none⟩ = some (.int .i64 t.k) ∧ V.cell? ⟨W.heap.size, 1, none⟩ = some (.int .i64 t.n) ∧ V.cell? ⟨W.heap.size, 2, none⟩ = some (.string (bs t.s)) ∧ V.cell? ⟨W.heap.size, 3, none⟩ = some (.int .i64 t.e) ∧ V.cell? ⟨W.heap.size, 4, none⟩ = some (.int .i64 t.r.1) ∧ V.cell? ⟨W.heap.size, 5, none⟩ = some (.int .i64 t.r.2.1) ∧ V.cell? ⟨W.heap.size, 6, none⟩ = some (.bool t.r.2.2.1) ∧ V.cell? ⟨W.heap.size, 7, none⟩ = some (.bool t.r.2.2.2) ∧ V.cell? ⟨W.heap.size, 8, none⟩ = some (.int .i64 t.q.1) ∧ V.cell? ⟨W.heap.size, 9, none⟩ = some (.int .i64 t.q.2.1) ∧ V.cell? ⟨W.heap.size, 10, none⟩ = some (.bool t.q.2.2.1) ∧ V.cell? ⟨W.heap.size, 11, none⟩ = some (.bool t.q.2.2.2) ∧ V.cell? ⟨W.heap.size, 12, none⟩ = some (.slice pp ln cl) ∧ V.cell? ⟨W.heap.size + 1, 0, none⟩ = some (.int .i64 t.k) ∧ V.cell? ⟨W.heap.size + 1, 1, none⟩ = some (.int .i64 t.n) ∧ V.cell? ⟨W.heap.size + 1, 2, none⟩ = some (.string (bs t.s)) ∧ V.cell? ⟨W.heap.size + 1, 3, none⟩ = some (.int .i64 t.e) ∧ V.cell? ⟨W.heap.size + 1, 4, none⟩ = some (.int .i64 t.r.1) ∧ V.cell? ⟨W.heap.size + 1, 5, none⟩ = some (.int .i64 t.r.2.1) ∧ V.cell? ⟨W.heap.size + 1, 6, none⟩ = some (.bool t.r.2.2.1) ∧ V.cell? ⟨W.heap.size + 1, 7, none⟩ = some (.bool t.r.2.2.2) ∧ V.cell? ⟨W.heap.size + 1, 8, none⟩ = some (.int .i64 t.q.1) ∧ V.cell? ⟨W.heap.size + 1, 9, none⟩ = some (.int .i64 t.q.2.1) ∧ V.cell? ⟨W.heap.size + 1, 10, none⟩ = some (.bool t.q.2.2.1) ∧ V.cell? ⟨W.heap.size + 1, 11, none⟩ = some (.bool t.q.2.2.2) ∧ V.cell? ⟨W.heap.size + 1, 12, none⟩ = some (.slice qq ln cm)) ∧ Ext W2 V) := by
      intro V e
      have y := (HF.out.1.ext e).2.1
      have z := (HF.out.2.1.ext e).2.1
      exact ⟨⟨y.1, y.2.1, y.2.2.1, y.2.2.2.1, y.2.2.2.2.1, y.2.2.2.2.2.1, y.2.2.2.2.2.2.1, y.2.2.2.2.2.2.2.1, y.2.2.2.2.2.2.2.2.1, y.2.2.2.2.2.2.2.2.2.1, y.2.2.2.2.2.2.2.2.2.2.1, y.2.2.2.2.2.2.2.2.2.2.2.1, y.2.2.2.2.2.2.2.2.2.2.2.2, z.1, z.2.1, z.2.2.1, z.2.2.2.1, z.2.2.2.2.1, z.2.2.2.2.2.1, z.2.2.2.2.2.2.1, z.2.2.2.2.2.2.2.1, z.2.2.2.2.2.2.2.2.1, z.2.2.2.2.2.2.2.2.2.1, z.2.2.2.2.2.2.2.2.2.2.1, z.2.2.2.2.2.2.2.2.2.2.2.1, z.2.2.2.2.2.2.2.2.2.2.2.2⟩, e⟩
    go_region_held3 (fun V => (V.cell? ⟨W.heap.size, 0, none⟩ = some (.int .i64 t.k) ∧ V.cell? ⟨W.heap.size, 1, none⟩ = some (.int .i64 t.n) ∧ V.cell? ⟨W.heap.size, 2, none⟩ = some (.string (bs t.s)) ∧ V.cell? ⟨W.heap.size, 3, none⟩ = some (.int .i64 t.e) ∧ V.cell? ⟨W.heap.size, 4, none⟩ = some (.int .i64 t.r.1) ∧ V.cell? ⟨W.heap.size, 5, none⟩ = some (.int .i64 t.r.2.1) ∧ V.cell? ⟨W.heap.size, 6, none⟩ = some (.bool t.r.2.2.1) ∧ V.cell? ⟨W.heap.size, 7, none⟩ = some (.bool t.r.2.2.2) ∧ V.cell? ⟨W.heap.size, 8, none⟩ = some (.int .i64 t.q.1) ∧ V.cell? ⟨W.heap.size, 9, none⟩ = some (.int .i64 t.q.2.1) ∧ V.cell? ⟨W.heap.size, 10, none⟩ = some (.bool t.q.2.2.1) ∧ V.cell? ⟨W.heap.size, 11, none⟩ = some (.bool t.q.2.2.2) ∧ V.cell? ⟨W.heap.size, 12, none⟩ = some (.slice pp ln cl) ∧ V.cell? ⟨W.heap.size + 1, 0, none⟩ = some (.int .i64 t.k) ∧ V.cell? ⟨W.heap.size + 1, 1, none⟩ = some (.int .i64 t.n) ∧ V.cell? ⟨W.heap.size + 1, 2, none⟩ = some (.string (bs t.s)) ∧ V.cell? ⟨W.heap.size + 1, 3, none⟩ = some (.int .i64 t.e) ∧ V.cell? ⟨W.heap.size + 1, 4, none⟩ = some (.int .i64 t.r.1) ∧ V.cell? ⟨W.heap.size + 1, 5, none⟩ = some (.int .i64 t.r.2.1) ∧ V.cell? ⟨W.heap.size + 1, 6, none⟩ = some (.bool t.r.2.2.1) ∧ V.cell? ⟨W.heap.size + 1, 7, none⟩ = some (.bool t.r.2.2.2) ∧ V.cell? ⟨W.heap.size + 1, 8, none⟩ = some (.int .i64 t.q.1) ∧ V.cell? ⟨W.heap.size + 1, 9, none⟩ = some (.int .i64 t.q.2.1) ∧ V.cell? ⟨W.heap.size + 1, 10, none⟩ = some (.bool t.q.2.2.1) ∧ V.cell? ⟨W.heap.size + 1, 11, none⟩ = some (.bool t.q.2.2.2) ∧ V.cell? ⟨W.heap.size + 1, 12, none⟩ = some (.slice qq ln cm)) ∧ Ext W2 V)
      ((refine mkS.out _ ?_; with_reducible (repeat (first | assumption | exact Ext.refl _ | apply Ext.drew | apply Ext.drewN)); done))
      (first | (go_at_call_of 36 (Value.slice pp ln cl); refine (cP _).mono ?_; rintro e y1 ⟨rfl, E1⟩; have X1 : Ext W2 y1 := (by first | exact Ext.trans (by assumption) E1 | exact ((Ext.refl W2).drew).trans E1 | exact ((Ext.refl W2).drewN _).trans E1)) | (go_at_call_of 36 (Value.slice qq ln cm); refine (cQ _).mono ?_; rintro e y1 ⟨rfl, E1⟩; have X1 : Ext W2 y1 := (by first | exact Ext.trans (by assumption) E1 | exact ((Ext.refl W2).drew).trans E1 | exact ((Ext.refl W2).drewN _).trans E1)) | (go_at_call 35; refine (HEQ.out _ (HF.out.2.2.trans (by assumption))).mono ?_; rintro e y1 ⟨rfl, E1⟩; have X1 : Ext W2 y1 := (by first | exact Ext.trans (by assumption) E1 | exact ((Ext.refl W2).drew).trans E1); have HZ : Hid (Ext W2 y1) := X1))
    all_goals
      go_wp2_with fail
      go_ret
      exact ⟨rfl, HF.out.2.2.trans HZ.out⟩
  have e7 : (t.k == 7) = false := by simpa using k7
  have e8 : (t.k == 8) = false := by simpa using k8
  have hno : ¬ (t.k = 6 ∨ t.k = 7 ∨ t.k = 8) := by omega
  simp only [ptV_no hno] at cP cQ
  clear hno
  clear k0 k1 k2 k3 k4 k5 k6 k7 k8
  go_enter Tryz.func16, Tryz.ntmps16
  go_wp2_with fail
  have HF : Hid (Blk13 ((W.alloc (.cells #[.int .i64 t.k, .int .i64 t.n, .string (bs t.s), .int .i64 t.e, .int .i64 t.r.1, .int .i64 t.r.2.1, .bool t.r.2.2.1, .bool t.r.2.2.2, .int .i64 t.q.1, .int .i64 t.q.2.1, .bool t.q.2.2.1, .bool t.q.2.2.2, .slice pp ln cl] 26)).alloc (.cells #[.int .i64 t.k, .int .i64 t.n, .string (bs t.s), .int .i64 t.e, .int .i64 t.r.1, .int .i64 t.r.2.1, .bool t.r.2.2.1, .bool t.r.2.2.2, .int .i64 t.q.1, .int .i64 t.q.2.1, .bool t.q.2.2.1, .bool t.q.2.2.2, .slice qq ln cm] 26)) W.heap.size (.int .i64 t.k) (.int .i64 t.n) (.string (bs t.s)) (.int .i64 t.e) (.int .i64 t.r.1) (.int .i64 t.r.2.1) (.bool t.r.2.2.1) (.bool t.r.2.2.2) (.int .i64 t.q.1) (.int .i64 t.q.2.1) (.bool t.q.2.2.1) (.bool t.q.2.2.2) (.slice pp ln cl) ∧ Blk13 ((W.alloc (.cells #[.int .i64 t.k, .int .i64 t.n, .string (bs t.s), .int .i64 t.e, .int .i64 t.r.1, .int .i64 t.r.2.1, .bool t.r.2.2.1, .bool t.r.2.2.2, .int .i64 t.q.1, .int .i64 t.q.2.1, .bool t.q.2.2.1, .bool t.q.2.2.2, .slice pp ln cl] 26)).alloc (.cells #[.int .i64 t.k, .int .i64 t.n, .string (bs t.s), .int .i64 t.e, .int .i64 t.r.1, .int .i64 t.r.2.1, .bool t.r.2.2.1, .bool t.r.2.2.2, .int .i64 t.q.1, .int .i64 t.q.2.1, .bool t.q.2.2.1, .bool t.q.2.2.2, .slice qq ln cm] 26)) (W.heap.size + 1) (.int .i64 t.k) (.int .i64 t.n) (.string (bs t.s)) (.int .i64 t.e) (.int .i64 t.r.1) (.int .i64 t.r.2.1) (.bool t.r.2.2.1) (.bool t.r.2.2.2) (.int .i64 t.q.1) (.int .i64 t.q.2.1) (.bool t.q.2.2.1) (.bool t.q.2.2.2) (.slice qq ln cm) ∧ Ext W ((W.alloc (.cells #[.int .i64 t.k, .int .i64 t.n, .string (bs t.s), .int .i64 t.e, .int .i64 t.r.1, .int .i64 t.r.2.1, .bool t.r.2.2.1, .bool t.r.2.2.2, .int .i64 t.q.1, .int .i64 t.q.2.1, .bool t.q.2.2.1, .bool t.q.2.2.2, .slice pp ln cl] 26)).alloc (.cells #[.int .i64 t.k, .int .i64 t.n, .string (bs t.s), .int .i64 t.e, .int .i64 t.r.1, .int .i64 t.r.2.1, .bool t.r.2.2.1, .bool t.r.2.2.2, .int .i64 t.q.1, .int .i64 t.q.2.1, .bool t.q.2.2.1, .bool t.q.2.2.2, .slice qq ln cm] 26))) := ⟨blk13_top rfl ((Ext.refl _).alloc _), blk13_top (by simp) (Ext.refl _), ((Ext.refl _).alloc _).alloc _⟩
  generalize (W.alloc (.cells #[.int .i64 t.k, .int .i64 t.n, .string (bs t.s), .int .i64 t.e, .int .i64 t.r.1, .int .i64 t.r.2.1, .bool t.r.2.2.1, .bool t.r.2.2.2, .int .i64 t.q.1, .int .i64 t.q.2.1, .bool t.q.2.2.1, .bool t.q.2.2.2, .slice pp ln cl] 26)).alloc (.cells #[.int .i64 t.k, .int .i64 t.n, .string (bs t.s), .int .i64 t.e, .int .i64 t.r.1, .int .i64 t.r.2.1, .bool t.r.2.2.1, .bool t.r.2.2.2, .int .i64 t.q.1, .int .i64 t.q.2.1, .bool t.q.2.2.1, .bool t.q.2.2.2, .slice qq ln cm] 26) = W2 at HF ⊢
  have mkS : Hid (∀ V, Ext W2 V → (V.cell? ⟨W.heap.size, 0, none⟩ = some (.int .i64 t.k) ∧ V.cell? ⟨W.heap.size, 1, none⟩ = some (.int .i64 t.n) ∧ V.cell? ⟨W.heap.size, 2, none⟩ = some (.string (bs t.s)) ∧ V.cell? ⟨W.heap.size, 3, none⟩ = some (.int .i64 t.e) ∧ V.cell? ⟨W.heap.size, 4, none⟩ = some (.int .i64 t.r.1) ∧ V.cell? ⟨W.heap.size, 5, none⟩ = some (.int .i64 t.r.2.1) ∧ V.cell? ⟨W.heap.size, 6, none⟩ = some (.bool t.r.2.2.1) ∧ V.cell? ⟨W.heap.size, 7, none⟩ = some (.bool t.r.2.2.2) ∧ V.cell? ⟨W.heap.size, 8, none⟩ = some (.int .i64 t.q.1) ∧ V.cell? ⟨W.heap.size, 9, none⟩ = some (.int .i64 t.q.2.1) ∧ V.cell? ⟨W.heap.size, 10, none⟩ = some (.bool t.q.2.2.1) ∧ V.cell? ⟨W.heap.size, 11, none⟩ = some (.bool t.q.2.2.2) ∧ V.cell? ⟨W.heap.size, 12, none⟩ = some (.slice pp ln cl) ∧ V.cell? ⟨W.heap.size + 1, 0, none⟩ = some (.int .i64 t.k) ∧ V.cell? ⟨W.heap.size + 1, 1, none⟩ = some (.int .i64 t.n) ∧ V.cell? ⟨W.heap.size + 1, 2, none⟩ = some (.string (bs t.s)) ∧ V.cell? ⟨W.heap.size + 1, 3, none⟩ = some (.int .i64 t.e) ∧ V.cell? ⟨W.heap.size + 1, 4, none⟩ = some (.int .i64 t.r.1) ∧ V.cell? ⟨W.heap.size + 1, 5, none⟩ = some (.int .i64 t.r.2.1) ∧ V.cell? ⟨W.heap.size + 1, 6, none⟩ = some (.bool t.r.2.2.1) ∧ V.cell? ⟨W.heap.size + 1, 7, none⟩ = some (.bool t.r.2.2.2) ∧ V.cell? ⟨W.heap.size + 1, 8, none⟩ = some (.int .i64 t.q.1) ∧ V.cell? ⟨W.heap.size + 1, 9, none⟩ = some (.int .i64 t.q.2.1) ∧ V.cell? ⟨W.heap.size + 1, 10, none⟩ = some (.bool t.q.2.2.1) ∧ V.cell? ⟨W.heap.size + 1, 11, none⟩ = some (.bool t.q.2.2.2) ∧ V.cell? ⟨W.heap.size + 1, 12, none⟩ = some (.slice qq ln cm)) ∧ Ext W2 V) := by
    intro V e
    have y := (HF.out.1.ext e).2.1
    have z := (HF.out.2.1.ext e).2.1
    exact ⟨⟨y.1, y.2.1, y.2.2.1, y.2.2.2.1, y.2.2.2.2.1, y.2.2.2.2.2.1, y.2.2.2.2.2.2.1, y.2.2.2.2.2.2.2.1, y.2.2.2.2.2.2.2.2.1, y.2.2.2.2.2.2.2.2.2.1, y.2.2.2.2.2.2.2.2.2.2.1, y.2.2.2.2.2.2.2.2.2.2.2.1, y.2.2.2.2.2.2.2.2.2.2.2.2, z.1, z.2.1, z.2.2.1, z.2.2.2.1, z.2.2.2.2.1, z.2.2.2.2.2.1, z.2.2.2.2.2.2.1, z.2.2.2.2.2.2.2.1, z.2.2.2.2.2.2.2.2.1, z.2.2.2.2.2.2.2.2.2.1, z.2.2.2.2.2.2.2.2.2.2.1, z.2.2.2.2.2.2.2.2.2.2.2.1, z.2.2.2.2.2.2.2.2.2.2.2.2⟩, e⟩
  go_region_held3 (fun V => (V.cell? ⟨W.heap.size, 0, none⟩ = some (.int .i64 t.k) ∧ V.cell? ⟨W.heap.size, 1, none⟩ = some (.int .i64 t.n) ∧ V.cell? ⟨W.heap.size, 2, none⟩ = some (.string (bs t.s)) ∧ V.cell? ⟨W.heap.size, 3, none⟩ = some (.int .i64 t.e) ∧ V.cell? ⟨W.heap.size, 4, none⟩ = some (.int .i64 t.r.1) ∧ V.cell? ⟨W.heap.size, 5, none⟩ = some (.int .i64 t.r.2.1) ∧ V.cell? ⟨W.heap.size, 6, none⟩ = some (.bool t.r.2.2.1) ∧ V.cell? ⟨W.heap.size, 7, none⟩ = some (.bool t.r.2.2.2) ∧ V.cell? ⟨W.heap.size, 8, none⟩ = some (.int .i64 t.q.1) ∧ V.cell? ⟨W.heap.size, 9, none⟩ = some (.int .i64 t.q.2.1) ∧ V.cell? ⟨W.heap.size, 10, none⟩ = some (.bool t.q.2.2.1) ∧ V.cell? ⟨W.heap.size, 11, none⟩ = some (.bool t.q.2.2.2) ∧ V.cell? ⟨W.heap.size, 12, none⟩ = some (.slice pp ln cl) ∧ V.cell? ⟨W.heap.size + 1, 0, none⟩ = some (.int .i64 t.k) ∧ V.cell? ⟨W.heap.size + 1, 1, none⟩ = some (.int .i64 t.n) ∧ V.cell? ⟨W.heap.size + 1, 2, none⟩ = some (.string (bs t.s)) ∧ V.cell? ⟨W.heap.size + 1, 3, none⟩ = some (.int .i64 t.e) ∧ V.cell? ⟨W.heap.size + 1, 4, none⟩ = some (.int .i64 t.r.1) ∧ V.cell? ⟨W.heap.size + 1, 5, none⟩ = some (.int .i64 t.r.2.1) ∧ V.cell? ⟨W.heap.size + 1, 6, none⟩ = some (.bool t.r.2.2.1) ∧ V.cell? ⟨W.heap.size + 1, 7, none⟩ = some (.bool t.r.2.2.2) ∧ V.cell? ⟨W.heap.size + 1, 8, none⟩ = some (.int .i64 t.q.1) ∧ V.cell? ⟨W.heap.size + 1, 9, none⟩ = some (.int .i64 t.q.2.1) ∧ V.cell? ⟨W.heap.size + 1, 10, none⟩ = some (.bool t.q.2.2.1) ∧ V.cell? ⟨W.heap.size + 1, 11, none⟩ = some (.bool t.q.2.2.2) ∧ V.cell? ⟨W.heap.size + 1, 12, none⟩ = some (.slice qq ln cm)) ∧ Ext W2 V)
    ((refine mkS.out _ ?_; with_reducible (repeat (first | assumption | exact Ext.refl _ | apply Ext.drew | apply Ext.drewN)); done))
    (first | (go_at_call_of 36 (Value.slice pp ln cl); refine (cP _).mono ?_; rintro e y1 ⟨rfl, E1⟩; have X1 : Ext W2 y1 := (by first | exact Ext.trans (by assumption) E1 | exact ((Ext.refl W2).drew).trans E1 | exact ((Ext.refl W2).drewN _).trans E1)) | (go_at_call_of 36 (Value.slice qq ln cm); refine (cQ _).mono ?_; rintro e y1 ⟨rfl, E1⟩; have X1 : Ext W2 y1 := (by first | exact Ext.trans (by assumption) E1 | exact ((Ext.refl W2).drew).trans E1 | exact ((Ext.refl W2).drewN _).trans E1)) | (go_at_call 35; refine (HEN.out _).mono ?_; rintro e y1 ⟨rfl, E1⟩; have X1 : Ext W2 y1 := (by first | exact Ext.trans (by assumption) E1 | exact ((Ext.refl W2).drew).trans E1); have HZ : Hid (Ext W2 y1) := X1))
  all_goals
    go_wp2_with fail
    go_ret
    exact ⟨rfl, HF.out.2.2.trans HZ.out⟩
theorem same_all (P : Nat → Prop) {t : T} (h : Bd t) : STr P t := by
  induction h with
  | mk t hl _ ih => exact same_true P t (by omega) ih

end Go.Proofs.YtbfahmkagnmbmaaGreatDoor

namespace Go.Proofs.YtbfahmkagnmbmaaGreatDoor
open Go.RowKit

theorem run_take (p : UInt8 → Bool) : ∀ (l : List UInt8) (k : Nat), run p l ≤ k → run p (l.take k) = run p l
  | [], k, _ => by simp
  | c :: l, 0, h => by
    rw [run_cons] at h ⊢
    split at h
    · omega
    · rename_i h1; rw [if_neg h1]; rfl
  | c :: l, k + 1, h => by
    rw [List.take_succ_cons, run_cons, run_cons]
    rw [run_cons] at h
    split
    · rename_i h1
      rw [if_pos h1] at h
      rw [run_take p l k (by omega)]
    · rfl
theorem numE_take (l : List UInt8) : numE (l.take (numE l)) = numE l := by
  have h0 := numE_ge l
  have h1 : run dgB (l.take (numE l)) = run dgB l := run_take dgB l _ h0
  by_cases hc : l[run dgB l]? = some 46 ∧ 0 < run dgB (l.drop (run dgB l + 1))
  · have e : numE l = run dgB l + 1 + run dgB (l.drop (run dgB l + 1)) := by rw [numE, if_pos hc]
    have h2 : (l.take (numE l))[run dgB l]? = some 46 := by rw [List.getElem?_take, if_pos (by omega)]; exact hc.1
    have h3 : run dgB ((l.take (numE l)).drop (run dgB l + 1)) = run dgB (l.drop (run dgB l + 1)) := by
      rw [List.drop_take]
      exact run_take dgB _ _ (by omega)
    rw [numE, h1, h3, if_pos ⟨h2, hc.2⟩, ← e]
  · have e : numE l = run dgB l := by rw [numE, if_neg hc]
    rw [numE, h1, if_neg, ← e]
    rintro ⟨h2, _⟩
    rw [List.getElem?_take, if_neg (by omega)] at h2
    cases h2
theorem txt_take : ∀ (l : List UInt8) (x : List UInt8 × Nat), txt l = some x → txt (l.take x.2) = some x
  | [], x, h => by simp [txt] at h
  | [c], x, h => by
    have hh := h
    unfold txt at h
    split at h
    · cases h; exact hh
    · cases h
  | c :: d :: r, x, h => by
    unfold txt at h
    split at h
    · rename_i hc
      subst hc
      split at h
      · rename_i hd
        subst hd
        rw [Option.map_eq_some_iff] at h
        obtain ⟨y, hy, rfl⟩ := h
        show txt (34 :: 34 :: r.take y.2) = _
        rw [txt, if_pos rfl, if_pos rfl, txt_take r y hy]; rfl
      · cases h; rfl
    · rename_i hc
      rw [Option.map_eq_some_iff] at h
      obtain ⟨y, hy, rfl⟩ := h
      show txt (c :: (d :: r).take y.2) = _
      rw [txt_cne _ _ hc, txt_take (d :: r) y hy]; rfl
theorem find_less {α : Type} {q q' : α → Bool} : ∀ (l : List α) (x : α), l.find? q = some x → q' x = true → (∀ y, q' y = true → q y = true) → l.find? q' = some x
  | [], _, h, _, _ => by cases h
  | y :: l, x, h, hx, hq => by
    rw [List.find?_cons] at h ⊢
    cases hy : q y
    · rw [hy] at h
      have : q' y = false := by cases h1 : q' y; rfl; rw [hq y h1] at hy; cases hy
      rw [this]
      exact find_less l x h hx hq
    · rw [hy] at h
      cases h
      rw [hx]
theorem pre_take {p l : List UInt8} (k : Nat) (h : p.isPrefixOf (l.take k) = true) : p.isPrefixOf l = true := by
  rw [List.isPrefixOf_iff_prefix] at h ⊢
  exact h.trans (List.take_prefix k l)
theorem pre_self {p l : List UInt8} (h : p.isPrefixOf l = true) : p.isPrefixOf (l.take p.length) = true := by
  rw [List.isPrefixOf_iff_prefix] at h ⊢
  obtain ⟨t, rfl⟩ := h
  rw [List.take_left]
  exact List.prefix_refl _
/-- A word is told by its own bytes. -/
theorem nxt_cut {l : List UInt8} {x : Wd} (h : nxt l = .ok x) : nxt (l.take x.2.2.2.2) = .ok x := by
  cases l with
  | nil => cases h
  | cons c l =>
    obtain ⟨m, hm⟩ : ∃ m, x.2.2.2.2 = m + 1 := ⟨x.2.2.2.2 - 1, by have := (nxt_pos h).1; omega⟩
    have hx := h
    rw [hm, List.take_succ_cons, nxt_cons]
    rw [nxt_cons] at h
    have e : c :: l.take m = (c :: l).take x.2.2.2.2 := by rw [hm, List.take_succ_cons]
    rw [e]
    split at h
    · rename_i h1
      rw [if_pos h1]
      unfold numR at h ⊢
      have e1 : ∀ y : Wd, (if rdK ((c :: l).take (numE (c :: l))) = 0 then Except.error 4 else if rdK ((c :: l).take (numE (c :: l))) = 2 then Except.error 2 else Except.ok (0, [], rdV ((c :: l).take (numE (c :: l))), 0, numE (c :: l))) = (Except.ok y : Except Int Wd) → y.2.2.2.2 = numE (c :: l) := by
        intro y hy
        split at hy
        · cases hy
        · split at hy
          · cases hy
          · cases hy; rfl
      rw [e1 x h, numE_take, List.take_take, Nat.min_self]
      exact h
    · rename_i h1
      rw [if_neg h1]
      split at h
      · rename_i h2
        rw [if_pos h2]
        unfold txtR at h ⊢
        rw [List.tail_cons] at h
        split at h
        · cases h
        · rename_i y hy
          cases h
          simp only [List.take_succ_cons, List.tail_cons, txt_take l y hy]
      · rename_i h2
        rw [if_neg h2]
        split at h
        · rename_i h3
          rw [if_pos h3]
          unfold wdR at h ⊢
          cases h
          show Except.ok _ = Except.ok _
          rw [run_take inW (c :: l) _ (Nat.le_refl _), List.take_take, Nat.min_self]
        · rename_i h3
          rw [if_neg h3]
          split at h
          · rename_i h4
            rw [if_pos h4]
            unfold errR at h ⊢
            split at h
            · cases h
            · rename_i y hy
              cases h
              have : errT ((c :: l).take y.2.length) = some y := by
                unfold errT at hy ⊢
                have hp := List.find?_some hy
                exact find_less errsL y hy (pre_self hp) (fun z hz => pre_take _ hz)
              simp only [this]
          · rename_i h4
            rw [if_neg h4]
            unfold sgR at h ⊢
            split at h
            · cases h
            · rename_i y hy
              cases h
              have : sgT ((c :: l).take y.length) = some y := by
                unfold sgT at hy ⊢
                have hp := List.find?_some hy
                exact find_less (q := fun p => p.isPrefixOf (c :: l)) sgsL y hy (pre_self hp) (fun z hz => pre_take _ hz)
              simp only [this]
/-- Where the first word stands. -/
theorem W_first : ∀ (l : List UInt8) (p : Nat) (u : Tk) (r : List Tk), W p l = .ok (u :: r) → ∃ k, u.2.1 = ((p + k : Nat) : Int) ∧ k ≤ l.length ∧ l.take k = bl k ∧ W (p + k) (l.drop k) = .ok (u :: r)
  | [], p, u, r, h => by
    rw [W_nil] at h
    cases h
    exact ⟨0, rfl, Nat.le_refl _, rfl, rfl⟩
  | c :: l, p, u, r, h => by
    by_cases hc : c = 32
    · subst hc
      have h' := h
      rw [W_blank] at h'
      obtain ⟨k, h1, h2, h3, h4⟩ := W_first l (p + 1) u r h'
      refine ⟨k + 1, ?_, by simpa using h2, ?_, ?_⟩
      · rw [h1]; congr 1; omega
      · rw [List.take_succ_cons, h3]; rfl
      · rw [show p + (k + 1) = p + 1 + k by omega, List.drop_succ_cons]; exact h4
    · refine ⟨0, ?_, Nat.zero_le _, rfl, h⟩
      rw [W_cons p c l hc] at h
      cases hx : nxt (c :: l) with
      | error e => rw [hx] at h; cases h
      | ok x =>
        rw [hx] at h
        obtain ⟨us, _, h1⟩ := map_ok h
        cases h1
        rfl
/-- The words with two blanks more behind each. -/
def sp2 (l : List UInt8) : List Tk → List UInt8
  | [] => []
  | [_] => []
  | t :: u :: r => (l.drop t.2.1.toNat).take (u.2.1.toNat - t.2.1.toNat) ++ 32 :: 32 :: sp2 l (u :: r)
theorem W_sp2 (l : List UInt8) (n : Nat) : ∀ (p q : Nat) (ts : List Tk), l.length - p ≤ n → p ≤ l.length → W p (l.drop p) = .ok ts → ∃ ts' e, W q (sp2 l ts) = .ok ts' ∧ e.1 = 5 ∧ Rt [e] ts ts' := by
  induction n with
  | zero =>
    intro p q ts hn hp h
    rw [List.drop_eq_nil_of_le (by omega), W_nil] at h
    cases h
    exact ⟨[endT q], endT q, rfl, rfl, .nil _ rfl⟩
  | succ n ih =>
    intro p q ts hn hp h
    by_cases he : p = l.length
    · rw [List.drop_eq_nil_of_le (by omega), W_nil] at h
      cases h
      exact ⟨[endT q], endT q, rfl, rfl, .nil _ rfl⟩
    · have hlt : p < l.length := by omega
      by_cases hc : l[p] = 32
      · rw [List.drop_eq_getElem_cons hlt, hc, W_blank] at h
        exact ih (p + 1) q ts (by omega) (by omega) h
      · have h0 := h
        rw [List.drop_eq_getElem_cons hlt, W_cons p _ _ hc, ← List.drop_eq_getElem_cons hlt] at h
        cases hx : nxt (l.drop p) with
        | error e => rw [hx] at h; cases h
        | ok x =>
          rw [hx] at h
          simp only [] at h
          obtain ⟨us, hu, rfl⟩ := map_ok h
          have hm := nxt_pos hx
          simp only [List.length_drop] at hm
          rw [List.drop_drop] at hu
          cases us with
          | nil =>
            have := W_count (l.drop (p + x.2.2.2.2)).length _ _ _ (Nat.le_refl _) hu
            simp at this
          | cons u r =>
            obtain ⟨k, k1, k2, k3, k4⟩ := W_first _ _ _ _ hu
            simp only [List.length_drop] at k2
            have e1 : u.2.1.toNat = p + x.2.2.2.2 + k := by rw [k1]; exact Int.toNat_natCast _
            have e2 : (tkOf x p).2.1.toNat = p := Int.toNat_natCast _
            have hs : sp2 l (tkOf x p :: u :: r) = (l.drop p).take x.2.2.2.2 ++ (bl k ++ 32 :: 32 :: sp2 l (u :: r)) := by
              rw [sp2, e1, e2]
              have : (l.drop p).take (p + x.2.2.2.2 + k - p) = (l.drop p).take x.2.2.2.2 ++ bl k := by
                rw [show p + x.2.2.2.2 + k - p = x.2.2.2.2 + k by omega, List.take_add, List.drop_drop, k3]
              rw [this, List.append_assoc]
            have hS : Sp (bl k ++ 32 :: 32 :: sp2 l (u :: r)) := by
              cases k with
              | zero => exact .inr ⟨32, _, rfl, .inl rfl⟩
              | succ k => exact .inr ⟨32, bl k ++ 32 :: 32 :: sp2 l (u :: r), rfl, .inl rfl⟩
            have hn1 := nxt_sp hS (nxt_cut hx)
            rw [← hs] at hn1
            obtain ⟨ts', e, i1, i2, i3⟩ := ih (p + x.2.2.2.2 + k) (q + x.2.2.2.2 + (k + 2)) (u :: r) (by omega) (by omega) (by rw [← List.drop_drop]; exact k4)
            refine ⟨tkOf x q :: ts', e, ?_, i2, .cons _ _ _ _ (nxt_kind hx) rfl rfl i3⟩
            obtain ⟨a, s', hs'⟩ : ∃ a s', sp2 l (tkOf x p :: u :: r) = a :: s' ∧ a ≠ 32 := by
              refine ⟨l[p], ((l.drop (p + 1)).take (x.2.2.2.2 - 1)) ++ (bl k ++ 32 :: 32 :: sp2 l (u :: r)), ?_, hc⟩
              rw [hs, List.drop_eq_getElem_cons hlt]
              obtain ⟨m, hm'⟩ : ∃ m, x.2.2.2.2 = m + 1 := ⟨x.2.2.2.2 - 1, by omega⟩
              rw [hm', List.take_succ_cons]; rfl
            rw [hs'.1] at hn1 ⊢
            rw [W_at_one q hs'.2 hn1, ← hs'.1, hs]
            have hlen : ((l.drop p).take x.2.2.2.2).length = x.2.2.2.2 := by simp; omega
            rw [List.drop_append_of_le_length (by omega), List.drop_eq_nil_of_le (by omega), List.nil_append]
            have hb : bl k ++ 32 :: 32 :: sp2 l (u :: r) = bl (k + 2) ++ sp2 l (u :: r) := by
              have : bl (k + 2) = bl k ++ [32, 32] := by unfold bl; rw [← List.replicate_append_replicate]; rfl
              rw [this, List.append_assoc]; rfl
            rw [hb, W_ahead, i1]
            rfl
/-- More blanks change nothing but places. -/
theorem parR_sp2 {l : List UInt8} {ts : List Tk} (hl : l.length ≤ 300) (h : W 0 l = .ok ts) (hn : (sp2 l ts).length ≤ 300) : (parR (sp2 l ts)).2.2 = (parR l).2.2 ∧ (parR (sp2 l ts)).1 = (parR l).1 := by
  obtain ⟨ts', e, h1, h2, h3⟩ := W_sp2 l l.length 0 0 ts (by omega) (Nat.zero_le _) h
  rw [parR_of hl h, parR_of hn h1]
  have hS : Stp true [e] := ⟨e, rfl, h2⟩
  have k := frm_all hS ts.length ts'.length 0 0 ts ts' ⟨Nat.le_refl _, fun _ => rfl⟩ h3 (Nat.le_refl _) (Nat.le_refl _)
  unfold prs
  cases hf : frm (O ts.length) 0 ts with
  | error x =>
    rw [hf] at k
    obtain ⟨p, hp⟩ := k rfl
    rw [hp]
    exact ⟨rfl, rfl⟩
  | ok a =>
    rw [hf] at k
    rcases k with k | ⟨a', k1, k2, k3⟩ | ⟨k, _⟩
    · exact k.elim
    · rw [k1]
      obtain ⟨x, ts1⟩ := a
      obtain ⟨x', ts1'⟩ := a'
      simp only [] at k2 k3 ⊢
      by_cases h5 : (hd ts1).1 = 5
      · rw [if_pos h5, if_pos ((k3.ends hS h5).2.1 rfl), k2]
        exact ⟨rfl, rfl⟩
      · rw [if_neg h5, if_neg (by rw [(k3.heads h5).1]; exact h5)]
        exact ⟨rfl, rfl⟩
    · cases k
end Go.Proofs.YtbfahmkagnmbmaaGreatDoor

namespace Go.Proofs.YtbfahmkagnmbmaaGreatDoor
open Go.RowKit

theorem bd0 {t : T} (h : t.l = []) : Bd t := .mk t (by rw [h]; simp) (fun x hx => by rw [h] at hx; cases hx)
def BR (r : Rs) : Prop := ∀ x ts, r = .ok (x, ts) → Bd x
def BF (F : Rd) : Prop := ∀ d ts, BR (F d ts)
theorem one_bd {d : Nat} {ts : List Tk} {x : T} (h : Bd x) : BR (one d ts x) := by
  intro y us e
  unfold one at e
  split at e
  · cases e
  · cases e; exact h
theorem argm_bd {F : Rd} (hF : BF F) : BF (argm F) := by
  intro d ts x us e
  unfold argm at e
  split at e
  · cases e
  · rename_i y ts1 h1
    split at e
    · split at e
      · cases e
      · split at e
        · cases e
        · cases e; exact bd0 rfl
    · cases e; exact hF d ts _ _ h1
theorem argl_bd {F : Rd} (hF : BF F) (a b d : Nat) (ha : a ≤ 20) (hb : b ≤ 20) (f : Nat) : ∀ (l l' : List T) (ts us : List Tk), l.length ≤ 20 → (∀ x ∈ l, Bd x) → argl F a b d f l ts = .ok (l', us) → l'.length ≤ 20 ∧ ∀ x ∈ l', Bd x := by
  induction f with
  | zero =>
    intro l l' ts us h1 h2 e
    unfold argl at e
    cases e
    exact ⟨h1, h2⟩
  | succ f ih =>
    intro l l' ts us h1 h2 e
    unfold argl at e
    split at e
    · rename_i hc
      split at e
      · cases e
      · split at e
        · cases e
        · rename_i x ts2 h3
          refine ih _ _ _ _ ?_ ?_ e
          · rw [List.length_append]; simp; omega
          · intro y hy
            rcases List.mem_append.1 hy with hy | hy
            · exact h2 y hy
            · simp at hy; subst hy; exact argm_bd hF _ _ _ _ h3
    · cases e; exact ⟨h1, h2⟩
theorem call_bd {F : Rd} (hF : BF F) (s : List UInt8) (a b : Nat) (ha : a ≤ 20) (hb : b ≤ 20) : BF (call F s a b) := by
  intro d ts x us e
  unfold call args at e
  split at e
  · cases e
  · rename_i l ts1 h1
    cases e
    split at h1
    · cases h1
    · rename_i y ts2 h2
      obtain ⟨h3, h4⟩ := argl_bd hF a b d ha hb _ _ _ _ _ (by simp) (fun z hz => by simp at hz; subst hz; exact argm_bd hF _ _ _ _ h2) h1
      exact .mk _ h3 h4
theorem brk_bd {F : Rd} (hF : BF F) : BF (brk F) := by
  intro d ts x us e
  unfold brk at e
  split at e
  · cases e
  · split at e
    · cases e
    · rename_i y ts2 h2
      split at e
      · cases e
      · cases e; exact hF _ _ _ _ h2
theorem wrd_bd {F : Rd} (hF : BF F) : BF (wrd F) := by
  intro d ts x us e
  unfold wrd at e
  split at e
  · exact one_bd (bd0 rfl) _ _ e
  · split at e
    · exact one_bd (bd0 rfl) _ _ e
    · split at e
      · rename_i a b hk
        split at e
        · cases e
        · have hl := kno_le hk
          exact brk_bd (call_bd hF _ a b hl.1 hl.2) _ _ _ _ e
      · split at e
        · cases e
        · cases e; exact bd0 rfl
theorem smp_bd {F : Rd} (hF : BF F) : BF (smp F) := by
  intro d ts x us e
  unfold smp at e
  split at e
  · exact one_bd (bd0 rfl) _ _ e
  · split at e
    · exact one_bd (bd0 rfl) _ _ e
    · split at e
      · exact one_bd (bd0 rfl) _ _ e
      · split at e
        · exact wrd_bd hF _ _ _ _ e
        · exact brk_bd hF _ _ _ _ e
theorem opn_bd {F G : Rd} (hF : BF F) (hG : BF G) : BF (opn F G) := by
  intro d ts x us e
  unfold opn at e
  split at e
  · split at e
    · cases e
    · split at e
      · cases e
      · rename_i y ts2 h2
        cases e
        exact .mk _ (by show 1 ≤ 20; decide) (fun z hz => by
          rcases List.mem_cons.1 hz with rfl | hz
          · exact hG _ _ _ _ h2
          · cases hz)
  · exact smp_bd hF _ _ _ _ e
theorem lp_bd {F : Rd} (hF : BF F) (k d f : Nat) : ∀ (x y : T) (ts us : List Tk), Bd x → lp F k d f x ts = .ok (y, us) → Bd y := by
  induction f with
  | zero => intro x y ts us h e; unfold lp at e; cases e; exact h
  | succ f ih =>
    intro x y ts us h e
    unfold lp at e
    split at e
    · split at e
      · cases e
      · split at e
        · cases e
        · rename_i z ts2 h2
          refine ih _ _ _ _ ?_ e
          exact .mk _ (by show 2 ≤ 20; decide) (fun v hv => by
            rcases List.mem_cons.1 hv with rfl | hv
            · exact h
            · rcases List.mem_cons.1 hv with rfl | hv
              · exact hF _ _ _ _ h2
              · cases hv)
    · cases e; exact h
theorem lv_bd {F : Rd} (hF : BF F) (k : Nat) : BF (lv F k) := by
  intro d ts x us e
  unfold lv at e
  split at e
  · cases e
  · rename_i y ts1 h1
    exact lp_bd hF k d _ _ _ _ _ (hF _ _ _ _ h1) e
theorem O_bd (n : Nat) : BF (O n) := by
  induction n with
  | zero => intro d ts x us e; cases e
  | succ n ih => exact opn_bd (lv_bd (lv_bd (lv_bd (lv_bd ih 4) 3) 2) 1) ih
theorem parR_bd (l : List UInt8) : Bd (parR l).1 := by
  unfold parR
  split
  · unfold prs
    split
    · exact bd0 rfl
    · rename_i x ts1 h1
      split
      · exact lv_bd (lv_bd (lv_bd (lv_bd (O_bd _) 4) 3) 2) 1 _ _ _ _ h1
      · exact bd0 rfl
  · exact bd0 rfl
end Go.Proofs.YtbfahmkagnmbmaaGreatDoor
