/-
  Rectangles as plain data; the contracts of Area, Has (package coord's and the document's), Can, Least, Great.
-/
import Derived.Test.YtdklhgfkaablbaaDoorCooJ
namespace Go.Proofs.YtdklhgfkaablbaaDoor
open Go.RowKit
set_option maxHeartbeats 1000000

/-- Has a rectangle any places; how many; is a place one of them? -/
def canR (p q u v : Int) : Bool := inB p q && inB u v && decide (p ≤ u) && decide (q ≤ v)
def areaR (p q u v : Int) : Int := if canR p q u v then (u - p + 1) * (v - q + 1) else 0
def hasR (p q u v r c : Int) : Bool := canR p q u v && decide (p ≤ r) && decide (r ≤ u) && decide (q ≤ c) && decide (c ≤ v)
def mnI (a b : Int) : Int := if a < b then a else b
def mxI (a b : Int) : Int := if b < a then a else b
def rectD (p q u v : Int) : Value := .agg #[.int .i64 p, .int .i64 q, .int .i64 u, .int .i64 v]

theorem can_bd {p q u v : Int} (h : canR p q u v = true) : 1 ≤ p ∧ p ≤ u ∧ u ≤ 1000 ∧ 1 ≤ q ∧ q ≤ v ∧ v ≤ 52 := by
  unfold canR inB at h; simp at h; omega
theorem area_bd (p q u v : Int) : 0 ≤ areaR p q u v ∧ areaR p q u v ≤ 52000 ∧ (areaR p q u v = 0 ↔ canR p q u v = false) := by
  unfold areaR
  cases h : canR p q u v
  · simp
  · obtain ⟨h1, h2, h3, h4, h5, h6⟩ := can_bd h
    rw [if_pos rfl]
    have a1 : 1 ≤ u - p + 1 := by omega
    have a2 : u - p + 1 ≤ 1000 := by omega
    have b1 : 1 ≤ v - q + 1 := by omega
    have b2 : v - q + 1 ≤ 52 := by omega
    generalize u - p + 1 = m at *
    generalize v - q + 1 = n at *
    have l1 : 1 * 1 ≤ m * n := Int.mul_le_mul a1 b1 (by omega) (by omega)
    have l2 : m * n ≤ 1000 * 52 := Int.mul_le_mul a2 b2 (by omega) (by omega)
    refine ⟨by omega, by omega, ?_⟩
    constructor
    · intro e; omega
    · intro e; cases e

theorem least_any (a b : Int) (w : World) : Calls Tryd.prog 35 #[.int .i64 a, .int .i64 b] w fun e w' => e = .returned (.int .i64 (mnI a b)) ∧ w' = w := by
  by_cases h : a < b
  · have H : Hid (mnI a b = a) := if_pos h
    go_enter Tryd.func35, Tryd.ntmps35
    go_wp2_with fail
    go_ret
    exact ⟨ret_int H.out.symm, rfl⟩
  · have H : Hid (mnI a b = b) := if_neg h
    go_enter Tryd.func35, Tryd.ntmps35
    go_wp2_with fail
    go_ret
    exact ⟨ret_int H.out.symm, rfl⟩
theorem great_any (a b : Int) (w : World) : Calls Tryd.prog 36 #[.int .i64 a, .int .i64 b] w fun e w' => e = .returned (.int .i64 (mxI a b)) ∧ w' = w := by
  by_cases h : b < a
  · have H : Hid (mxI a b = a) := if_pos h
    go_enter Tryd.func36, Tryd.ntmps36
    go_wp2_with fail
    go_ret
    exact ⟨ret_int H.out.symm, rfl⟩
  · have H : Hid (mxI a b = b) := if_neg h
    go_enter Tryd.func36, Tryd.ntmps36
    go_wp2_with fail
    go_ret
    exact ⟨ret_int H.out.symm, rfl⟩

theorem rcan6_any (p q u v : Int) (w : World) : Calls Tryd.prog 37 #[.agg #[.int .i64 p, .int .i64 q, .int .i64 u, .int .i64 v]] w fun e w' => e = .returned (.bool (canR p q u v)) ∧ Ext w w' := by
  have c1 := fun W => rin_any p q W
  have c2 := fun W => rin_any u v W
  have HR : Hid (canR p q u v = (inB p q && inB u v && decide (p ≤ u) && decide (q ≤ v))) := rfl
  cases g1 : inB p q
  · rw [g1] at c1 HR
    go_enter Tryd.func37, Tryd.ntmps37
    go_wp2_with fail
    refine (c1 _).mono ?_
    rintro e w1 ⟨rfl, rfl⟩
    go_wp2_with fail
    go_ret
    exact ⟨ret_bool (by rw [HR.out]; rfl), (Ext.refl _).alloc _⟩
  cases g2 : inB u v
  · rw [g1] at c1 HR
    rw [g2] at c2 HR
    go_enter Tryd.func37, Tryd.ntmps37
    go_wp2_with fail
    refine (c1 _).mono ?_
    rintro e w1 ⟨rfl, rfl⟩
    go_wp2_with fail
    refine (c2 _).mono ?_
    rintro e w1 ⟨rfl, rfl⟩
    go_wp2_with fail
    go_ret
    exact ⟨ret_bool (by rw [HR.out]; rfl), (Ext.refl _).alloc _⟩
  rw [g1] at c1 HR
  rw [g2] at c2 HR
  cases h1 : decide (p ≤ u) <;> cases h2 : decide (q ≤ v)
  all_goals
    rw [h1, h2] at HR
    have h3 := h1
    have h4 := h2
    simp only [decide_eq_true_eq, decide_eq_false_iff_not] at h3 h4
    go_enter Tryd.func37, Tryd.ntmps37
    go_wp2_with fail
    refine (c1 _).mono ?_
    rintro e w1 ⟨rfl, rfl⟩
    go_wp2_with fail
    refine (c2 _).mono ?_
    rintro e w1 ⟨rfl, rfl⟩
    go_wp2_with fail
    go_ret
    exact ⟨ret_bool (by rw [HR.out]; rfl), (Ext.refl _).alloc _⟩

theorem area_any (p q u v : Int) (w : World) : Calls Tryd.prog 22 #[.agg #[.int .i64 p, .int .i64 q, .int .i64 u, .int .i64 v]] w fun e w' => e = .returned (.int .i64 (areaR p q u v)) ∧ Ext w w' := by
  have c1 := fun W => in_any p q W
  have c2 := fun W => in_any u v W
  have HR : Hid (canR p q u v = (inB p q && inB u v && decide (p ≤ u) && decide (q ≤ v))) := rfl
  have HN : Hid (canR p q u v = false → areaR p q u v = 0) := fun h => (area_bd p q u v).2.2.2 h
  have HY : Hid (canR p q u v = true → areaR p q u v = (u - p + 1) * (v - q + 1)) := fun h => by unfold areaR; rw [h]; rfl
  cases g1 : inB p q
  · rw [g1] at c1 HR
    go_enter Tryd.func22, Tryd.ntmps22
    go_wp2_with fail
    refine (c1 _).mono ?_
    rintro e w1 ⟨rfl, rfl⟩
    go_wp2_with fail
    go_ret
    exact ⟨ret_int (by rw [HN.out (by rw [HR.out]; rfl)]), (Ext.refl _).alloc _⟩
  cases g2 : inB u v
  · rw [g1] at c1 HR
    rw [g2] at c2 HR
    go_enter Tryd.func22, Tryd.ntmps22
    go_wp2_with fail
    refine (c1 _).mono ?_
    rintro e w1 ⟨rfl, rfl⟩
    go_wp2_with fail
    refine (c2 _).mono ?_
    rintro e w1 ⟨rfl, rfl⟩
    go_wp2_with fail
    go_ret
    exact ⟨ret_int (by rw [HN.out (by rw [HR.out]; rfl)]), (Ext.refl _).alloc _⟩
  rw [g1] at c1 HR
  rw [g2] at c2 HR
  cases h1 : decide (p ≤ u) <;> cases h2 : decide (q ≤ v)
  all_goals rw [h1, h2] at HR
  case true.true =>
    have hc : canR p q u v = true := HR.out
    obtain ⟨b1, b2, b3, b4, b5, b6⟩ := can_bd hc
    have HA : Hid (areaR p q u v = (u - p + 1) * (v - q + 1)) := HY.out hc
    have hb := area_bd p q u v
    rw [HA.out] at hb
    obtain ⟨a1, a2, _⟩ := hb
    clear HR HN HY hc h1 h2 g1 g2
    go_enter Tryd.func22, Tryd.ntmps22
    go_wp2_with fail
    refine (c1 _).mono ?_
    rintro e w1 ⟨rfl, rfl⟩
    go_wp2_with fail
    refine (c2 _).mono ?_
    rintro e w1 ⟨rfl, rfl⟩
    go_wp2_with fail
    go_ret
    exact ⟨ret_int HA.out.symm, (Ext.refl _).alloc _⟩
  all_goals
    have h3 := h1
    have h4 := h2
    simp only [decide_eq_true_eq, decide_eq_false_iff_not] at h3 h4
    go_enter Tryd.func22, Tryd.ntmps22
    go_wp2_with fail
    refine (c1 _).mono ?_
    rintro e w1 ⟨rfl, rfl⟩
    go_wp2_with fail
    refine (c2 _).mono ?_
    rintro e w1 ⟨rfl, rfl⟩
    go_wp2_with fail
    go_ret
    exact ⟨ret_int (by rw [HN.out (by rw [HR.out]; rfl)]), (Ext.refl _).alloc _⟩

theorem rarea6_any (p q u v : Int) (w : World) : Calls Tryd.prog 23 #[.agg #[.int .i64 p, .int .i64 q, .int .i64 u, .int .i64 v]] w fun e w' => e = .returned (.int .i64 (areaR p q u v)) ∧ Ext w w' := by
  have c1 := fun W => rcan6_any p q u v W
  cases hc : canR p q u v
  · have HN : Hid (areaR p q u v = 0) := (area_bd p q u v).2.2.2 hc
    rw [hc] at c1
    go_enter Tryd.func23, Tryd.ntmps23
    go_wp2_with fail
    refine (c1 _).mono ?_
    rintro e w1 ⟨rfl, E1⟩
    go_wp2_with fail
    go_ret
    exact ⟨ret_int HN.out.symm, ((Ext.refl _).alloc _).trans E1⟩
  · obtain ⟨b1, b2, b3, b4, b5, b6⟩ := can_bd hc
    have HA : Hid (areaR p q u v = (u - p + 1) * (v - q + 1)) := by show _ = _; unfold areaR; rw [hc]; rfl
    have hb := area_bd p q u v
    rw [HA.out] at hb
    obtain ⟨a1, a2, _⟩ := hb
    rw [hc] at c1
    go_enter Tryd.func23, Tryd.ntmps23
    go_wp2_with fail
    refine (c1 _).mono ?_
    rintro e w1 ⟨rfl, E1⟩
    have B1 := blk_top rfl E1
    obtain ⟨_, ⟨k0, k1, k2, k3⟩, _⟩ := B1
    go_wp2_with fail
    go_ret
    exact ⟨ret_int HA.out.symm, ((Ext.refl _).alloc _).trans E1⟩

theorem has_any (p q u v r c : Int) (w : World) : Calls Tryd.prog 24 #[.agg #[.int .i64 p, .int .i64 q, .int .i64 u, .int .i64 v], .int .i64 r, .int .i64 c] w fun e w' => e = .returned (.bool (hasR p q u v r c)) ∧ Ext w w' := by
  have c1 := fun W => area_any p q u v W
  have hb := area_bd p q u v
  have hA : decide (0 < areaR p q u v) = canR p q u v := by
    cases h : canR p q u v
    · rw [(hb.2.2).2 h]; rfl
    · have : areaR p q u v ≠ 0 := fun e => by rw [(hb.2.2).1 e] at h; cases h
      exact decide_eq_true (by omega)
  have HR : Hid (hasR p q u v r c = (canR p q u v && decide (p ≤ r) && decide (r ≤ u) && decide (q ≤ c) && decide (c ≤ v))) := rfl
  cases hc : canR p q u v
  · rw [hc] at HR
    rw [hc] at hA
    have hA' := hA
    first | simp only [decide_eq_true_eq] at hA' | simp only [decide_eq_false_iff_not] at hA'
    generalize areaR p q u v = z at *
    clear hb
    go_enter Tryd.func24, Tryd.ntmps24
    go_wp2_with fail
    refine (c1 _).mono ?_
    rintro e w1 ⟨rfl, E1⟩
    go_wp2_with fail
    go_ret
    exact ⟨ret_bool (by rw [HR.out]; rfl), ((Ext.refl _).alloc _).trans E1⟩
  · rw [hc] at HR
    rw [hc] at hA
    have hA' := hA
    first | simp only [decide_eq_true_eq] at hA' | simp only [decide_eq_false_iff_not] at hA'
    generalize areaR p q u v = z at *
    clear hb
    cases h1 : decide (p ≤ r) <;> cases h2 : decide (r ≤ u) <;> cases h3 : decide (q ≤ c) <;> cases h4 : decide (c ≤ v)
    all_goals
      rw [h1, h2, h3, h4] at HR
      have i1 := h1
      have i2 := h2
      have i3 := h3
      have i4 := h4
      simp only [decide_eq_true_eq, decide_eq_false_iff_not] at i1 i2 i3 i4
      go_enter Tryd.func24, Tryd.ntmps24
      go_wp2_with fail
      refine (c1 _).mono ?_
      rintro e w1 ⟨rfl, E1⟩
      have B1 := blk_top rfl E1
      obtain ⟨_, ⟨k0, k1, k2, k3⟩, _⟩ := B1
      go_wp2_with fail
      go_ret
      exact ⟨ret_bool (by rw [HR.out]; rfl), ((Ext.refl _).alloc _).trans E1⟩

theorem rhas6_any (p q u v r c : Int) (w : World) : Calls Tryd.prog 25 #[.agg #[.int .i64 p, .int .i64 q, .int .i64 u, .int .i64 v], .int .i64 r, .int .i64 c] w fun e w' => e = .returned (.bool (hasR p q u v r c)) ∧ Ext w w' := by
  have c1 := fun W => rcan6_any p q u v W
  have HR : Hid (hasR p q u v r c = (canR p q u v && decide (p ≤ r) && decide (r ≤ u) && decide (q ≤ c) && decide (c ≤ v))) := rfl
  cases hc : canR p q u v
  · rw [hc] at HR
    rw [hc] at c1
    go_enter Tryd.func25, Tryd.ntmps25
    go_wp2_with fail
    refine (c1 _).mono ?_
    rintro e w1 ⟨rfl, E1⟩
    go_wp2_with fail
    go_ret
    exact ⟨ret_bool (by rw [HR.out]; rfl), ((Ext.refl _).alloc _).trans E1⟩
  · rw [hc] at HR
    rw [hc] at c1
    cases h1 : decide (p ≤ r) <;> cases h2 : decide (r ≤ u) <;> cases h3 : decide (q ≤ c) <;> cases h4 : decide (c ≤ v)
    all_goals
      rw [h1, h2, h3, h4] at HR
      have i1 := h1
      have i2 := h2
      have i3 := h3
      have i4 := h4
      simp only [decide_eq_true_eq, decide_eq_false_iff_not] at i1 i2 i3 i4
      go_enter Tryd.func25, Tryd.ntmps25
      go_wp2_with fail
      refine (c1 _).mono ?_
      rintro e w1 ⟨rfl, E1⟩
      have B1 := blk_top rfl E1
      obtain ⟨_, ⟨k0, k1, k2, k3⟩, _⟩ := B1
      go_wp2_with fail
      go_ret
      exact ⟨ret_bool (by rw [HR.out]; rfl), ((Ext.refl _).alloc _).trans E1⟩
end Go.Proofs.YtdklhgfkaablbaaDoor
