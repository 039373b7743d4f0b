/-
  slices.Concat of two lists of spans; package span's Union.
-/
import Derived.Test.YtplidbcifljfoaaSpF
namespace Go.Proofs.Ytplidbcifljfoaa
open Go.RowKit
set_option maxHeartbeats 1000000

theorem Rd.cell {w : World} {v : Value} {l : List Sp} (h : Rd w v l) : ∃ p c, v = .slice p l.length c := h.form

set_option maxRecDepth 100000 in
theorem concat_any (w : World) (B : Nat) (va vb : Value) (a b : List Sp) (h1 : w.cell? ⟨B, 0, none⟩ = some va) (h2 : w.cell? ⟨B, 1, none⟩ = some vb) (hB : B < w.heap.size) (ha : Rd w va a) (hb : Rd w vb b) (la : a.length ≤ 1000) (lb : b.length ≤ 1000) :
    Calls Try.prog 32 #[.slice (some ⟨B, 0, none⟩) 2 2] w fun e w' => ∃ v', e = .returned v' ∧ Ow w' w.heap.size v' (a ++ b) ∧ Ext w w' := by
  obtain ⟨p, c, rfl⟩ := ha.form
  obtain ⟨q, d, rfl⟩ := hb.form
  have HA : Hid (Rd w (.slice p a.length c) a) := ha
  have HB : Hid (Rd w (.slice q b.length d) b) := hb
  have HL : Hid (a.length ≤ 1000 ∧ b.length ≤ 1000) := ⟨la, lb⟩
  have HBB : Hid (B < w.heap.size) := hB
  have H1 : Hid (w.cell? ⟨B, 0, none⟩ = some (.slice p a.length c)) := h1
  have H2 : Hid (w.cell? ⟨B, 1, none⟩ = some (.slice q b.length d)) := h2
  clear ha hb hB
  have w1 : wrap64 (0 + (a.length : Int)) = a.length := by unfold wrap64; omega
  have w1' : wrap64 (a.length : Int) = a.length := by unfold wrap64; omega
  have w2 : wrap64 ((a.length : Int) + (b.length : Int)) = ((a.length + b.length : Nat) : Int) := by unfold wrap64; omega
  have n1 : ¬ (a.length : Int) < 0 := by omega
  have n2 : ¬ ((a.length + b.length : Nat) : Int) < 0 := by omega
  have n2' : ¬ ((a.length : Int) + (b.length : Int)) < 0 := by omega
  have u0 : wrap64 (0 + 1) = 1 := by unfold wrap64; omega
  have u1 : wrap64 (1 + 1) = 2 := by unfold wrap64; omega
  clear la lb
  go_enter Try.func32, Try.ntmps32
  go_wp2
  refine wp_loop_rounds 3 ?_
  rw [rounds_succ]
  go_wp2
  rw [rounds_succ]
  go_wp2
  have cG := fun W => grow_any W (a.length + b.length) (by have := HL.out; omega)
  generalize hN : ((a.length + b.length : Nat) : Int) = N at *
  rw [rounds_succ]
  go_wp2_with fail
  refine (cG _).mono ?_
  rintro e w3 ⟨v3, rfl, O3, E3⟩
  have HO3 : Hid (Ow w3 w.heap.size v3 []) := O3
  have HE3 : Hid (Ext w w3) := E3
  have d1 := (E3.cell.1 B 0 HBB.out).trans H1.out
  have d2 := (E3.cell.1 B 1 HBB.out).trans H2.out
  clear cG O3 E3 h1 h2
  go_wp2
  refine wp_loop_rounds 3 ?_
  rw [rounds_succ]
  go_wp2_with (at_builtin; refine bk_append_any _ w _ _ _ _ [] a rfl rfl (by rfl) (by rfl) HO3.out (HA.out.ext HE3.out).ra (by have := HL.out; simp; omega) HE3.out ?_; intro v4 w4 k1 k2)
  have HO4 : Hid (Ow w4 w.heap.size v4 a) := k1
  have HE4 : Hid (Ext w w4) := k2
  have d2 := (k2.cell.1 B 1 HBB.out).trans H2.out
  clear k1 k2
  go_wp2
  rw [rounds_succ]
  go_wp2_with (at_builtin; refine bk_append_any _ w _ _ _ _ a b rfl rfl (by rfl) (by rfl) HO4.out (HB.out.ext HE4.out).ra (by have := HL.out; omega) HE4.out ?_; intro v5 w5 k1 k2)
  have HO5 : Hid (Ow w5 w.heap.size v5 (a ++ b)) := k1
  have HE5 : Hid (Ext w w5) := k2
  clear k1 k2
  go_wp2
  rw [rounds_succ]
  go_wp2
  go_ret
  exact ⟨v5, rfl, HO5.out, HE5.out⟩

theorem rd_two_cells (W : World) (va vb : Value) : (W.alloc (.cells #[va, vb] 22)).cell? ⟨W.heap.size, 0, none⟩ = some va ∧ (W.alloc (.cells #[va, vb] 22)).cell? ⟨W.heap.size, 1, none⟩ = some vb := by
  constructor <;> simp [go_sem]
theorem AllI.append {a b : List Sp} (ha : AllI a) (hb : AllI b) : AllI (a ++ b) := by
  intro s hs
  rcases List.mem_append.mp hs with h | h
  · exact ha s h
  · exact hb s h

theorem union_any (w : World) (va vb : Value) (a b : List Sp) (ha : Rd w va a) (hb : Rd w vb b) (la : a.length ≤ 450) (lb : b.length ≤ 450) (Aa : AllI a) (Ab : AllI b) :
    Calls Try.prog 14 #[va, vb] w (SetQ w (a.length + b.length) (fun n => hasB a n || hasB b n)) := by
  obtain ⟨p, c, rfl⟩ := ha.form
  obtain ⟨q, d, rfl⟩ := hb.form
  have HA : Hid (Rd w (.slice p a.length c) a) := ha
  have HB : Hid (Rd w (.slice q b.length d) b) := hb
  have HL : Hid (a.length ≤ 450 ∧ b.length ≤ 450) := ⟨la, lb⟩
  have HI : Hid (AllI (a ++ b)) := Aa.append Ab
  clear ha hb la lb Aa Ab
  go_enter Try.func14, Try.ntmps14
  go_wp2_with fail
  have hx : Ext w (w.alloc (.cells #[.slice p a.length c, .slice q b.length d] 22)) := (Ext.refl _).alloc _
  refine (concat_any _ w.heap.size _ _ a b (rd_two_cells w _ _).1 (rd_two_cells w _ _).2 (by simp) (HA.out.ext hx) (HB.out.ext hx) (by have := HL.out; omega) (by have := HL.out; omega)).mono ?_
  rintro e w1 ⟨v1, rfl, O1, E1⟩
  have HE1 : Hid (Ext w w1) := hx.trans E1
  have cN := norm_any w1 v1 (a ++ b) O1.rd (by have := HL.out; simp; omega) HI.out
  clear hx O1 E1
  go_wp2_with fail
  refine cN.mono ?_
  rintro e w2 ⟨v2, r, rfl, h1, h2, h3, h4, h5, h6⟩
  have HQ : Hid (SetQ w (a.length + b.length) (fun n => hasB a n || hasB b n) (.returned v2) w2) :=
    ⟨v2, r, rfl, h1.mono HE1.out.size, h2, fun n => by rw [h3, hasB_append], h4, by simpa using h5, HE1.out.trans h6⟩
  clear h1 h2 h3 h4 h5 h6 cN
  go_wp2
  go_ret
  exact HQ.out
end Go.Proofs.Ytplidbcifljfoaa
