/-
  The document's By.
-/
import Derived.Test.YtgphjbkadjagpaaSpO
namespace Go.Proofs.Ytgphjbkadjagpaa
open Go.RowKit
set_option maxHeartbeats 4000000

theorem wrap_m (m : Nat) (h : m + 1 ≤ 1600) : wrap64 ((m : Int) + 1 - 1) = (m : Int) ∧ wrap64 (m : Int) = (m : Int) := by
  constructor <;> (unfold wrap64; omega)
theorem wrapI_succ (k : Nat) (h : k ≤ 1000000) : IntKind.i64.wrap ((k : Int) + 1) = (k : Int) + 1 ∧ wrap64 ((k : Int) + 1) = (k : Int) + 1 := by
  constructor
  · rw [IntKind.wrap_i64]; omega
  · unfold wrap64; omega
theorem pos_m (m : Nat) : (0 : Int) < (m : Int) + 1 := by omega
theorem lt_m (m : Nat) : (m : Int) < (m : Int) + 1 := by omega
/-- The rounds of By. -/
def ByR (f : Int → Bool) (w1 wr : World) (e : List Int) (k : Nat) (u : Value) : Prop :=
  ∃ o, Ow wr w1.heap.size u o ∧ Ext w1 wr ∧ (e = [] → o = []) ∧ ∀ x, e[k]? = some x → ByP f x k o
set_option maxRecDepth 100000 in
theorem by_any (w : World) (how : Int) (va vb : Value) (a b : List Sp) (hh : how = 0 ∨ how = 1 ∨ how = 2) (ha : Ra w va a) (hb : Ra w vb b) (la : a.length ≤ 400) (lb : b.length ≤ 400) (Aa : AllI a) (Ab : AllI b) :
    Calls Try.prog 11 #[.int .i64 how, va, vb] w (SetQ w (2 * (a.length + b.length)) (fOf how a b)) := by
  have c1 := edges_any w va vb a b ha hb la lb Aa Ab
  have HH : Hid (how = 0 ∨ how = 1 ∨ how = 2) := hh
  have HR : Hid (Ra w va a ∧ Ra w vb b) := ⟨ha, hb⟩
  have HL : Hid (a.length ≤ 400 ∧ b.length ≤ 400) := ⟨la, lb⟩
  clear ha hb la lb Aa Ab hh
  generalize hf : fOf how a b = f
  have HF : Hid (fOf how a b = f) := hf
  clear hf
  go_enter Try.func11, Try.ntmps11
  go_wp2_with fail
  refine c1.mono ?_
  rintro e w1 ⟨v1, ed, rfl, R1, P1, E1⟩
  have HE1 : Hid (Ext w w1 ∧ EdP (a ++ b) ed) := ⟨E1, P1⟩
  have HN : Hid (ed.length ≤ 1600) := by
    have h1 := P1.2.2.2; have h2 := HL.out; rw [List.length_append] at h1
    show ed.length ≤ 1600; omega
  obtain ⟨eb, ec, rfl, _, hbl, hce⟩ := R1
  have HC : Hid (∀ W, Ext w1 W → ∀ i x, ed[i]? = some x → W.cell? ⟨eb, i, none⟩ = some (.int .i64 x)) := fun W e i x hx => (e.cell.1 eb i hbl).trans (hce i x hx)
  clear P1 E1 c1 hbl hce
  go_wp2
  go_loopw [9, 8] (fun x u wr => ∃ k : Nat, x = .int .i64 (k : Int) ∧ k ≤ ed.length ∧ (ed ≠ [] → k < ed.length) ∧ ByR f w1 wr ed k u) (fun x _ _ => ed.length - (intOf x).toNat)
  case atStart =>
    refine ⟨0, rfl, Nat.zero_le _, fun h => List.length_pos_iff.mpr h, [], ow_new w1 w1 (Nat.le_refl _), (Ext.refl _).alloc _, fun _ => rfl, fun x hx => ?_⟩
    rw [← HF.out]
    exact ByP.start HE1.out.2 hx
  case round =>
    obtain ⟨k, rfl, hk, hne, hR⟩ := hrel
    have HO : Hid (ByR f w1 wr ed k u8) := hR
    clear hR
    have wk := wrap_succ k (by have := HN.out; omega)
    rcases Nat.lt_or_ge (k + 1) ed.length with hlt | hge
    · have hltI : ((k + 1 : Nat) : Int) < (ed.length : Int) := by omega
      obtain ⟨x, hx⟩ : ∃ x, ed[k]? = some x := ⟨_, List.getElem?_eq_getElem (by omega)⟩
      obtain ⟨y, hy⟩ : ∃ y, ed[k + 1]? = some y := ⟨_, List.getElem?_eq_getElem hlt⟩
      have HX : Hid (ed[k]? = some x ∧ ed[k + 1]? = some y) := ⟨hx, hy⟩
      obtain ⟨oo, o1, o2, _, o4⟩ := HO.out
      have HOO : Hid (Ow wr w1.heap.size u8 oo ∧ Ext w1 wr) := ⟨o1, o2⟩
      have hP0 := o4 x hx
      have HS : Hid ((f x = false → ByP f y (k + 1) oo) ∧ (f x = true → ByP f y (k + 1) (lay oo (x, y))) ∧ oo.length ≤ k ∧ (∀ t ∈ oo, t.2 ≤ x) ∧ x < y) := by
        have hP1 := hP0
        rw [← HF.out] at hP1 ⊢
        exact ⟨(hP1.step HE1.out.2 hx hy).1, (hP1.step HE1.out.2 hx hy).2, hP0.2.2.2.2, hP0.2.2.2.1, up_lt HE1.out.2.1 hx hy⟩
      have cA := fun (W : World) (h : Ext w1 W) => rhas_any W va a x (HR.out.1.ext (HE1.out.1.trans h)) (by have := HL.out; omega)
      have cB := fun (W : World) (h : Ext w1 W) => rhas_any W vb b x (HR.out.2.ext (HE1.out.1.trans h)) (by have := HL.out; omega)
      obtain ⟨xa, hxa⟩ : ∃ xa, hasB a x = xa := ⟨_, rfl⟩
      obtain ⟨xb, hxb⟩ : ∃ xb, hasB b x = xb := ⟨_, rfl⟩
      have HV : Hid (f x = byF how xa xb) := by rw [← HF.out, ← hxa, ← hxb]; rfl
      rw [hxa] at cA
      rw [hxb] at cB
      have HK : Hid (∀ W', Ext w1 W' → Ext w1 W' ∧ W'.cell? ⟨eb, k, none⟩ = some (.int .i64 x)) := fun W' e => ⟨e, HC.out W' e k x hx⟩
      have HKK : Hid (∀ W', Ext w1 W' → Ext w1 W' ∧ W'.cell? ⟨eb, k, none⟩ = some (.int .i64 x) ∧ W'.cell? ⟨eb, k + 1, none⟩ = some (.int .i64 y)) := fun W' e => ⟨e, HC.out W' e k x hx, HC.out W' e (k + 1) y hy⟩
      have hkI : (k : Int) < (ed.length : Int) := by omega
      have hkJ : (k : Int) + 1 < (ed.length : Int) := by omega
      have hk0 : (0 : Int) ≤ (k : Int) + 1 := by omega
      obtain ⟨wkI, wkJ⟩ := wrapI_succ k (by have := HN.out; omega)
      have hkN : ((k : Int) + 1).toNat = k + 1 := by omega
      clear hx hy o1 o2 o4 hP0 hxa hxb HO hne
      go_upto_region 5 with fail
      go_region_held3 (fun W => Ext w1 W ∧ W.cell? ⟨eb, k, none⟩ = some (.int .i64 x))
        (first | assumption | exact HK.out _ HOO.out.2.drew | exact HK.out _ E5 | exact HK.out _ E4)
        (first
          | (have _ := X4; go_at_call 18; refine (cB _ E4).mono ?_; rintro e w5 ⟨rfl, X5⟩; have E5 : Ext w1 w5 := E4.trans X5)
          | (go_at_call 18; refine (cA _ HOO.out.2.drew).mono ?_; rintro e w4 ⟨rfl, X4⟩; have E4 : Ext w1 w4 := HOO.out.2.drew.trans X4))
      all_goals
        have HW5 : Hid (Ow w5 w1.heap.size u8 oo ∧ Ext w1 w5) := ⟨HOO.out.1.ext (((Ext.refl _).drew.trans X4).trans X5), E5⟩
        clear X4 X5 E4 E5 cA cB HOO
        rcases HH.out with rfl | rfl | rfl
        · cases xa with
          | false =>
            cases xb with
            | false =>
              have HR' : Hid (ByR f w1 w5 ed (k + 1) u8) := ⟨oo, HW5.out.1, HW5.out.2, fun h => by rw [h] at hlt; simp at hlt, fun z hz => by rw [HX.out.2] at hz; rw [← Option.some.inj hz]; exact HS.out.1 (HV.out.trans rfl)⟩
              clear HW5 HS HX HK HKK HV
              go_wp2
              go_roundw
              case rel => exact ⟨k + 1, (by first | rw [wk] | rfl), by omega, fun _ => hlt, HR'.out⟩
              case measure => first | (rw [wk]; simp [intOf]; omega) | (simp [intOf]; omega)
            | true =>
              have HT : Hid (ByP f y (k + 1) (lay oo (x, y))) := HS.out.2.1 (HV.out.trans rfl)
              clear HV
              obtain ⟨up, uc, rfl⟩ := HW5.out.1.rd.form
              have hxy : ¬ y ≤ x := by have := HS.out.2.2.2.2; omega
              rcases snoc_cases oo with rfl | ⟨q, t, rfl⟩
              · rw [lay_first (s := (x, y)) hxy] at HT
                clear hxy
                obtain ⟨kx, ky⟩ := (HKK.out _ HW5.out.2).2
                go_upto_region 13 with fail
                go_quiet (fail)
                have HW6 : Hid (Ow (w5.drewN nq) w1.heap.size (.slice up ([] : List Sp).length uc) [] ∧ Ext w1 (w5.drewN nq)) := ⟨HW5.out.1.ext ((Ext.refl _).drewN _), HW5.out.2.drewN _⟩
                clear HW5
                generalize w5.drewN nq = w6 at *
                go_upto_region 15 with fail
                go_region_held3 (fun W => Ext w1 W ∧ W.cell? ⟨eb, k, none⟩ = some (.int .i64 x) ∧ W.cell? ⟨eb, k + 1, none⟩ = some (.int .i64 y))
                  (first | assumption | exact HKK.out _ HW6.out.2.drew | exact HKK.out _ (HW6.out.2.drew.alloc _) | exact HKK.out _ (HW6.out.2.alloc _).drew | exact HKK.out _ k2)
                  (first | (refine step_bk_append _ w1 _ _ _ _ _ _ _ [] [(x, y)] (by rfl) (by rfl) (by rfl) (by rfl) (by first | exact HW6.out.1.ext ((Ext.refl _).drew.alloc _) | exact HW6.out.1.ext ((Ext.refl _).alloc _).drew) (by first | exact rd_one _ _ _ | exact (rd_one _ _ _).ext (Ext.refl _).drew) (by first | (simp; done) | (have h1 := HS.out.2.2.1; have h2 := HN.out; simp at h1 ⊢; omega)) (by first | exact HW6.out.2.drew.alloc _ | exact (HW6.out.2.alloc _).drew) ?_; intro v' W' k1 k2))
                all_goals
                  have HR' : Hid (ByR f w1 W' ed (k + 1) v') := ⟨_, k1, k2, fun h => by rw [h] at hlt; simp at hlt, fun z hz => by rw [HX.out.2] at hz; rw [← Option.some.inj hz]; exact HT.out⟩
                  clear k1 k2 HW6 HS HX HK HKK HT
                  go_wp2
                  go_roundw
                  case rel => exact ⟨k + 1, (by first | rw [wk] | rfl), by omega, fun _ => hlt, HR'.out⟩
                  case measure => first | (rw [wk]; simp [intOf]; omega) | (simp [intOf]; omega)
              · have e0 : (q ++ [t]).length = q.length + 1 := by simp
                rw [e0] at HW5 ⊢
                obtain ⟨rst, hB⟩ := HW5.out.1
                obtain ⟨g, rfl, _, hb, hg, hc, hf⟩ := hB.top
                have HQL : Hid (q.length + 1 ≤ 1600) := by have h1 := HS.out.2.2.1; have h2 := HN.out; rw [e0] at h1; show q.length + 1 ≤ 1600; omega
                obtain ⟨kx, ky⟩ := (HKK.out _ HW5.out.2).2
                have HT2 : Hid (t.2 ≤ x) := HS.out.2.2.2.1 t (by simp)
                clear hB
                obtain ⟨m, hm⟩ : ∃ m, q.length = m := ⟨_, rfl⟩
                have HM : Hid (q.length = m) := hm
                rw [hm] at hc hf HQL HW5 ⊢
                clear hm e0
                have e1 := (wrap_m m HQL.out).1
                have e5 := (wrap_m m HQL.out).2
                have e3 := pos_m m
                have e4 := lt_m m
                by_cases htx : t.2 = x
                · have et : (t.2 == x) = true := by simp [htx]
                  have HL2 : Hid (lay (q ++ [t]) (x, y) = q ++ [(t.1, y)]) := by
                    show _ = _
                    rw [lay_grow (s := (x, y)) hxy (by show x ≤ t.2; omega)]
                    have : max t.2 y = y := by omega
                    rw [this]
                  clear htx hxy
                  go_upto_region 13 with fail
                  go_quiet (fail)
                  have HW6 : Hid (Ow (w5.drewN nq) w1.heap.size (.slice (some ⟨g, 0, none⟩) (m + 1) uc) (q ++ [t]) ∧ Ext w1 (w5.drewN nq)) := ⟨HW5.out.1.ext ((Ext.refl _).drewN _), HW5.out.2.drewN _⟩
                  replace ky : (w5.drewN nq).cell? ⟨eb, k + 1, none⟩ = some (.int .i64 y) := ky
                  replace kx : (w5.drewN nq).cell? ⟨eb, k, none⟩ = some (.int .i64 x) := kx
                  replace hc : (w5.drewN nq).cell? ⟨g, m * 2 + 1, none⟩ = some (.int .i64 t.2) := hc
                  replace hf : (w5.drewN nq).frozen? ⟨g, m * 2 + 1, none⟩ = false := hf
                  clear HW5
                  generalize w5.drewN nq = w6 at *
                  go_wp2
                  go_roundw
                  case rel =>
                    obtain ⟨rst, hB⟩ := HW6.out.1
                    have hm := HM.out
                    subst hm
                    have k2 := hB.grow y
                    refine ⟨k + 1, (by first | rw [wk] | rfl), by omega, fun _ => hlt, q ++ [(t.1, y)], ⟨rst, k2.1⟩, ext_grown hB (Nat.le_refl _) HW6.out.2 k2.2, fun h => by rw [h] at hlt; simp at hlt, fun z hz => ?_⟩
                    rw [HX.out.2] at hz; rw [← Option.some.inj hz, ← HL2.out]; exact HT.out
                  case measure => first | (rw [wk]; simp [intOf]; omega) | (simp [intOf]; omega)
                · have et : (t.2 == x) = false := by simp [htx]
                  rw [lay_more (s := (x, y)) hxy (by have := HT2.out; show ¬ x ≤ t.2; omega)] at HT
                  clear htx hxy
                  go_upto_region 13 with fail
                  go_quiet (fail)
                  have HW6 : Hid (Ow (w5.drewN nq) w1.heap.size (.slice (some ⟨g, 0, none⟩) (m + 1) uc) (q ++ [t]) ∧ Ext w1 (w5.drewN nq)) := ⟨HW5.out.1.ext ((Ext.refl _).drewN _), HW5.out.2.drewN _⟩
                  clear HW5
                  generalize w5.drewN nq = w6 at *
                  go_upto_region 15 with fail
                  go_region_held3 (fun W => Ext w1 W ∧ W.cell? ⟨eb, k, none⟩ = some (.int .i64 x) ∧ W.cell? ⟨eb, k + 1, none⟩ = some (.int .i64 y))
                    (first | assumption | exact HKK.out _ HW6.out.2.drew | exact HKK.out _ (HW6.out.2.drew.alloc _) | exact HKK.out _ (HW6.out.2.alloc _).drew | exact HKK.out _ k2)
                    (first | (refine step_bk_append _ w1 _ _ _ _ _ _ _ (q ++ [t]) [(x, y)] (by rfl) (by rfl) (by rfl) (by rfl) (by first | exact HW6.out.1.ext ((Ext.refl _).drew.alloc _) | exact HW6.out.1.ext ((Ext.refl _).alloc _).drew) (by first | exact rd_one _ _ _ | exact (rd_one _ _ _).ext (Ext.refl _).drew) (by first | (simp; done) | (have h1 := HS.out.2.2.1; have h2 := HN.out; simp at h1 ⊢; omega)) (by first | exact HW6.out.2.drew.alloc _ | exact (HW6.out.2.alloc _).drew) ?_; intro v' W' k1 k2))
                  all_goals
                    have HR' : Hid (ByR f w1 W' ed (k + 1) v') := ⟨_, k1, k2, fun h => by rw [h] at hlt; simp at hlt, fun z hz => by rw [HX.out.2] at hz; rw [← Option.some.inj hz]; exact HT.out⟩
                    clear k1 k2 HW6 HS HX HK HKK HT
                    go_wp2
                    go_roundw
                    case rel => exact ⟨k + 1, (by first | rw [wk] | rfl), by omega, fun _ => hlt, HR'.out⟩
                    case measure => first | (rw [wk]; simp [intOf]; omega) | (simp [intOf]; omega)
          | true =>
            cases xb with
            | false =>
              have HT : Hid (ByP f y (k + 1) (lay oo (x, y))) := HS.out.2.1 (HV.out.trans rfl)
              clear HV
              obtain ⟨up, uc, rfl⟩ := HW5.out.1.rd.form
              have hxy : ¬ y ≤ x := by have := HS.out.2.2.2.2; omega
              rcases snoc_cases oo with rfl | ⟨q, t, rfl⟩
              · rw [lay_first (s := (x, y)) hxy] at HT
                clear hxy
                obtain ⟨kx, ky⟩ := (HKK.out _ HW5.out.2).2
                go_upto_region 13 with fail
                go_quiet (fail)
                have HW6 : Hid (Ow (w5.drewN nq) w1.heap.size (.slice up ([] : List Sp).length uc) [] ∧ Ext w1 (w5.drewN nq)) := ⟨HW5.out.1.ext ((Ext.refl _).drewN _), HW5.out.2.drewN _⟩
                clear HW5
                generalize w5.drewN nq = w6 at *
                go_upto_region 15 with fail
                go_region_held3 (fun W => Ext w1 W ∧ W.cell? ⟨eb, k, none⟩ = some (.int .i64 x) ∧ W.cell? ⟨eb, k + 1, none⟩ = some (.int .i64 y))
                  (first | assumption | exact HKK.out _ HW6.out.2.drew | exact HKK.out _ (HW6.out.2.drew.alloc _) | exact HKK.out _ (HW6.out.2.alloc _).drew | exact HKK.out _ k2)
                  (first | (refine step_bk_append _ w1 _ _ _ _ _ _ _ [] [(x, y)] (by rfl) (by rfl) (by rfl) (by rfl) (by first | exact HW6.out.1.ext ((Ext.refl _).drew.alloc _) | exact HW6.out.1.ext ((Ext.refl _).alloc _).drew) (by first | exact rd_one _ _ _ | exact (rd_one _ _ _).ext (Ext.refl _).drew) (by first | (simp; done) | (have h1 := HS.out.2.2.1; have h2 := HN.out; simp at h1 ⊢; omega)) (by first | exact HW6.out.2.drew.alloc _ | exact (HW6.out.2.alloc _).drew) ?_; intro v' W' k1 k2))
                all_goals
                  have HR' : Hid (ByR f w1 W' ed (k + 1) v') := ⟨_, k1, k2, fun h => by rw [h] at hlt; simp at hlt, fun z hz => by rw [HX.out.2] at hz; rw [← Option.some.inj hz]; exact HT.out⟩
                  clear k1 k2 HW6 HS HX HK HKK HT
                  go_wp2
                  go_roundw
                  case rel => exact ⟨k + 1, (by first | rw [wk] | rfl), by omega, fun _ => hlt, HR'.out⟩
                  case measure => first | (rw [wk]; simp [intOf]; omega) | (simp [intOf]; omega)
              · have e0 : (q ++ [t]).length = q.length + 1 := by simp
                rw [e0] at HW5 ⊢
                obtain ⟨rst, hB⟩ := HW5.out.1
                obtain ⟨g, rfl, _, hb, hg, hc, hf⟩ := hB.top
                have HQL : Hid (q.length + 1 ≤ 1600) := by have h1 := HS.out.2.2.1; have h2 := HN.out; rw [e0] at h1; show q.length + 1 ≤ 1600; omega
                obtain ⟨kx, ky⟩ := (HKK.out _ HW5.out.2).2
                have HT2 : Hid (t.2 ≤ x) := HS.out.2.2.2.1 t (by simp)
                clear hB
                obtain ⟨m, hm⟩ : ∃ m, q.length = m := ⟨_, rfl⟩
                have HM : Hid (q.length = m) := hm
                rw [hm] at hc hf HQL HW5 ⊢
                clear hm e0
                have e1 := (wrap_m m HQL.out).1
                have e5 := (wrap_m m HQL.out).2
                have e3 := pos_m m
                have e4 := lt_m m
                by_cases htx : t.2 = x
                · have et : (t.2 == x) = true := by simp [htx]
                  have HL2 : Hid (lay (q ++ [t]) (x, y) = q ++ [(t.1, y)]) := by
                    show _ = _
                    rw [lay_grow (s := (x, y)) hxy (by show x ≤ t.2; omega)]
                    have : max t.2 y = y := by omega
                    rw [this]
                  clear htx hxy
                  go_upto_region 13 with fail
                  go_quiet (fail)
                  have HW6 : Hid (Ow (w5.drewN nq) w1.heap.size (.slice (some ⟨g, 0, none⟩) (m + 1) uc) (q ++ [t]) ∧ Ext w1 (w5.drewN nq)) := ⟨HW5.out.1.ext ((Ext.refl _).drewN _), HW5.out.2.drewN _⟩
                  replace ky : (w5.drewN nq).cell? ⟨eb, k + 1, none⟩ = some (.int .i64 y) := ky
                  replace kx : (w5.drewN nq).cell? ⟨eb, k, none⟩ = some (.int .i64 x) := kx
                  replace hc : (w5.drewN nq).cell? ⟨g, m * 2 + 1, none⟩ = some (.int .i64 t.2) := hc
                  replace hf : (w5.drewN nq).frozen? ⟨g, m * 2 + 1, none⟩ = false := hf
                  clear HW5
                  generalize w5.drewN nq = w6 at *
                  go_wp2
                  go_roundw
                  case rel =>
                    obtain ⟨rst, hB⟩ := HW6.out.1
                    have hm := HM.out
                    subst hm
                    have k2 := hB.grow y
                    refine ⟨k + 1, (by first | rw [wk] | rfl), by omega, fun _ => hlt, q ++ [(t.1, y)], ⟨rst, k2.1⟩, ext_grown hB (Nat.le_refl _) HW6.out.2 k2.2, fun h => by rw [h] at hlt; simp at hlt, fun z hz => ?_⟩
                    rw [HX.out.2] at hz; rw [← Option.some.inj hz, ← HL2.out]; exact HT.out
                  case measure => first | (rw [wk]; simp [intOf]; omega) | (simp [intOf]; omega)
                · have et : (t.2 == x) = false := by simp [htx]
                  rw [lay_more (s := (x, y)) hxy (by have := HT2.out; show ¬ x ≤ t.2; omega)] at HT
                  clear htx hxy
                  go_upto_region 13 with fail
                  go_quiet (fail)
                  have HW6 : Hid (Ow (w5.drewN nq) w1.heap.size (.slice (some ⟨g, 0, none⟩) (m + 1) uc) (q ++ [t]) ∧ Ext w1 (w5.drewN nq)) := ⟨HW5.out.1.ext ((Ext.refl _).drewN _), HW5.out.2.drewN _⟩
                  clear HW5
                  generalize w5.drewN nq = w6 at *
                  go_upto_region 15 with fail
                  go_region_held3 (fun W => Ext w1 W ∧ W.cell? ⟨eb, k, none⟩ = some (.int .i64 x) ∧ W.cell? ⟨eb, k + 1, none⟩ = some (.int .i64 y))
                    (first | assumption | exact HKK.out _ HW6.out.2.drew | exact HKK.out _ (HW6.out.2.drew.alloc _) | exact HKK.out _ (HW6.out.2.alloc _).drew | exact HKK.out _ k2)
                    (first | (refine step_bk_append _ w1 _ _ _ _ _ _ _ (q ++ [t]) [(x, y)] (by rfl) (by rfl) (by rfl) (by rfl) (by first | exact HW6.out.1.ext ((Ext.refl _).drew.alloc _) | exact HW6.out.1.ext ((Ext.refl _).alloc _).drew) (by first | exact rd_one _ _ _ | exact (rd_one _ _ _).ext (Ext.refl _).drew) (by first | (simp; done) | (have h1 := HS.out.2.2.1; have h2 := HN.out; simp at h1 ⊢; omega)) (by first | exact HW6.out.2.drew.alloc _ | exact (HW6.out.2.alloc _).drew) ?_; intro v' W' k1 k2))
                  all_goals
                    have HR' : Hid (ByR f w1 W' ed (k + 1) v') := ⟨_, k1, k2, fun h => by rw [h] at hlt; simp at hlt, fun z hz => by rw [HX.out.2] at hz; rw [← Option.some.inj hz]; exact HT.out⟩
                    clear k1 k2 HW6 HS HX HK HKK HT
                    go_wp2
                    go_roundw
                    case rel => exact ⟨k + 1, (by first | rw [wk] | rfl), by omega, fun _ => hlt, HR'.out⟩
                    case measure => first | (rw [wk]; simp [intOf]; omega) | (simp [intOf]; omega)
            | true =>
              have HT : Hid (ByP f y (k + 1) (lay oo (x, y))) := HS.out.2.1 (HV.out.trans rfl)
              clear HV
              obtain ⟨up, uc, rfl⟩ := HW5.out.1.rd.form
              have hxy : ¬ y ≤ x := by have := HS.out.2.2.2.2; omega
              rcases snoc_cases oo with rfl | ⟨q, t, rfl⟩
              · rw [lay_first (s := (x, y)) hxy] at HT
                clear hxy
                obtain ⟨kx, ky⟩ := (HKK.out _ HW5.out.2).2
                go_upto_region 13 with fail
                go_quiet (fail)
                have HW6 : Hid (Ow (w5.drewN nq) w1.heap.size (.slice up ([] : List Sp).length uc) [] ∧ Ext w1 (w5.drewN nq)) := ⟨HW5.out.1.ext ((Ext.refl _).drewN _), HW5.out.2.drewN _⟩
                clear HW5
                generalize w5.drewN nq = w6 at *
                go_upto_region 15 with fail
                go_region_held3 (fun W => Ext w1 W ∧ W.cell? ⟨eb, k, none⟩ = some (.int .i64 x) ∧ W.cell? ⟨eb, k + 1, none⟩ = some (.int .i64 y))
                  (first | assumption | exact HKK.out _ HW6.out.2.drew | exact HKK.out _ (HW6.out.2.drew.alloc _) | exact HKK.out _ (HW6.out.2.alloc _).drew | exact HKK.out _ k2)
                  (first | (refine step_bk_append _ w1 _ _ _ _ _ _ _ [] [(x, y)] (by rfl) (by rfl) (by rfl) (by rfl) (by first | exact HW6.out.1.ext ((Ext.refl _).drew.alloc _) | exact HW6.out.1.ext ((Ext.refl _).alloc _).drew) (by first | exact rd_one _ _ _ | exact (rd_one _ _ _).ext (Ext.refl _).drew) (by first | (simp; done) | (have h1 := HS.out.2.2.1; have h2 := HN.out; simp at h1 ⊢; omega)) (by first | exact HW6.out.2.drew.alloc _ | exact (HW6.out.2.alloc _).drew) ?_; intro v' W' k1 k2))
                all_goals
                  have HR' : Hid (ByR f w1 W' ed (k + 1) v') := ⟨_, k1, k2, fun h => by rw [h] at hlt; simp at hlt, fun z hz => by rw [HX.out.2] at hz; rw [← Option.some.inj hz]; exact HT.out⟩
                  clear k1 k2 HW6 HS HX HK HKK HT
                  go_wp2
                  go_roundw
                  case rel => exact ⟨k + 1, (by first | rw [wk] | rfl), by omega, fun _ => hlt, HR'.out⟩
                  case measure => first | (rw [wk]; simp [intOf]; omega) | (simp [intOf]; omega)
              · have e0 : (q ++ [t]).length = q.length + 1 := by simp
                rw [e0] at HW5 ⊢
                obtain ⟨rst, hB⟩ := HW5.out.1
                obtain ⟨g, rfl, _, hb, hg, hc, hf⟩ := hB.top
                have HQL : Hid (q.length + 1 ≤ 1600) := by have h1 := HS.out.2.2.1; have h2 := HN.out; rw [e0] at h1; show q.length + 1 ≤ 1600; omega
                obtain ⟨kx, ky⟩ := (HKK.out _ HW5.out.2).2
                have HT2 : Hid (t.2 ≤ x) := HS.out.2.2.2.1 t (by simp)
                clear hB
                obtain ⟨m, hm⟩ : ∃ m, q.length = m := ⟨_, rfl⟩
                have HM : Hid (q.length = m) := hm
                rw [hm] at hc hf HQL HW5 ⊢
                clear hm e0
                have e1 := (wrap_m m HQL.out).1
                have e5 := (wrap_m m HQL.out).2
                have e3 := pos_m m
                have e4 := lt_m m
                by_cases htx : t.2 = x
                · have et : (t.2 == x) = true := by simp [htx]
                  have HL2 : Hid (lay (q ++ [t]) (x, y) = q ++ [(t.1, y)]) := by
                    show _ = _
                    rw [lay_grow (s := (x, y)) hxy (by show x ≤ t.2; omega)]
                    have : max t.2 y = y := by omega
                    rw [this]
                  clear htx hxy
                  go_upto_region 13 with fail
                  go_quiet (fail)
                  have HW6 : Hid (Ow (w5.drewN nq) w1.heap.size (.slice (some ⟨g, 0, none⟩) (m + 1) uc) (q ++ [t]) ∧ Ext w1 (w5.drewN nq)) := ⟨HW5.out.1.ext ((Ext.refl _).drewN _), HW5.out.2.drewN _⟩
                  replace ky : (w5.drewN nq).cell? ⟨eb, k + 1, none⟩ = some (.int .i64 y) := ky
                  replace kx : (w5.drewN nq).cell? ⟨eb, k, none⟩ = some (.int .i64 x) := kx
                  replace hc : (w5.drewN nq).cell? ⟨g, m * 2 + 1, none⟩ = some (.int .i64 t.2) := hc
                  replace hf : (w5.drewN nq).frozen? ⟨g, m * 2 + 1, none⟩ = false := hf
                  clear HW5
                  generalize w5.drewN nq = w6 at *
                  go_wp2
                  go_roundw
                  case rel =>
                    obtain ⟨rst, hB⟩ := HW6.out.1
                    have hm := HM.out
                    subst hm
                    have k2 := hB.grow y
                    refine ⟨k + 1, (by first | rw [wk] | rfl), by omega, fun _ => hlt, q ++ [(t.1, y)], ⟨rst, k2.1⟩, ext_grown hB (Nat.le_refl _) HW6.out.2 k2.2, fun h => by rw [h] at hlt; simp at hlt, fun z hz => ?_⟩
                    rw [HX.out.2] at hz; rw [← Option.some.inj hz, ← HL2.out]; exact HT.out
                  case measure => first | (rw [wk]; simp [intOf]; omega) | (simp [intOf]; omega)
                · have et : (t.2 == x) = false := by simp [htx]
                  rw [lay_more (s := (x, y)) hxy (by have := HT2.out; show ¬ x ≤ t.2; omega)] at HT
                  clear htx hxy
                  go_upto_region 13 with fail
                  go_quiet (fail)
                  have HW6 : Hid (Ow (w5.drewN nq) w1.heap.size (.slice (some ⟨g, 0, none⟩) (m + 1) uc) (q ++ [t]) ∧ Ext w1 (w5.drewN nq)) := ⟨HW5.out.1.ext ((Ext.refl _).drewN _), HW5.out.2.drewN _⟩
                  clear HW5
                  generalize w5.drewN nq = w6 at *
                  go_upto_region 15 with fail
                  go_region_held3 (fun W => Ext w1 W ∧ W.cell? ⟨eb, k, none⟩ = some (.int .i64 x) ∧ W.cell? ⟨eb, k + 1, none⟩ = some (.int .i64 y))
                    (first | assumption | exact HKK.out _ HW6.out.2.drew | exact HKK.out _ (HW6.out.2.drew.alloc _) | exact HKK.out _ (HW6.out.2.alloc _).drew | exact HKK.out _ k2)
                    (first | (refine step_bk_append _ w1 _ _ _ _ _ _ _ (q ++ [t]) [(x, y)] (by rfl) (by rfl) (by rfl) (by rfl) (by first | exact HW6.out.1.ext ((Ext.refl _).drew.alloc _) | exact HW6.out.1.ext ((Ext.refl _).alloc _).drew) (by first | exact rd_one _ _ _ | exact (rd_one _ _ _).ext (Ext.refl _).drew) (by first | (simp; done) | (have h1 := HS.out.2.2.1; have h2 := HN.out; simp at h1 ⊢; omega)) (by first | exact HW6.out.2.drew.alloc _ | exact (HW6.out.2.alloc _).drew) ?_; intro v' W' k1 k2))
                  all_goals
                    have HR' : Hid (ByR f w1 W' ed (k + 1) v') := ⟨_, k1, k2, fun h => by rw [h] at hlt; simp at hlt, fun z hz => by rw [HX.out.2] at hz; rw [← Option.some.inj hz]; exact HT.out⟩
                    clear k1 k2 HW6 HS HX HK HKK HT
                    go_wp2
                    go_roundw
                    case rel => exact ⟨k + 1, (by first | rw [wk] | rfl), by omega, fun _ => hlt, HR'.out⟩
                    case measure => first | (rw [wk]; simp [intOf]; omega) | (simp [intOf]; omega)
        · cases xa with
          | false =>
            cases xb with
            | false =>
              have HR' : Hid (ByR f w1 w5 ed (k + 1) u8) := ⟨oo, HW5.out.1, HW5.out.2, fun h => by rw [h] at hlt; simp at hlt, fun z hz => by rw [HX.out.2] at hz; rw [← Option.some.inj hz]; exact HS.out.1 (HV.out.trans rfl)⟩
              clear HW5 HS HX HK HKK HV
              go_wp2
              go_roundw
              case rel => exact ⟨k + 1, (by first | rw [wk] | rfl), by omega, fun _ => hlt, HR'.out⟩
              case measure => first | (rw [wk]; simp [intOf]; omega) | (simp [intOf]; omega)
            | true =>
              have HR' : Hid (ByR f w1 w5 ed (k + 1) u8) := ⟨oo, HW5.out.1, HW5.out.2, fun h => by rw [h] at hlt; simp at hlt, fun z hz => by rw [HX.out.2] at hz; rw [← Option.some.inj hz]; exact HS.out.1 (HV.out.trans rfl)⟩
              clear HW5 HS HX HK HKK HV
              go_wp2
              go_roundw
              case rel => exact ⟨k + 1, (by first | rw [wk] | rfl), by omega, fun _ => hlt, HR'.out⟩
              case measure => first | (rw [wk]; simp [intOf]; omega) | (simp [intOf]; omega)
          | true =>
            cases xb with
            | false =>
              have HR' : Hid (ByR f w1 w5 ed (k + 1) u8) := ⟨oo, HW5.out.1, HW5.out.2, fun h => by rw [h] at hlt; simp at hlt, fun z hz => by rw [HX.out.2] at hz; rw [← Option.some.inj hz]; exact HS.out.1 (HV.out.trans rfl)⟩
              clear HW5 HS HX HK HKK HV
              go_wp2
              go_roundw
              case rel => exact ⟨k + 1, (by first | rw [wk] | rfl), by omega, fun _ => hlt, HR'.out⟩
              case measure => first | (rw [wk]; simp [intOf]; omega) | (simp [intOf]; omega)
            | true =>
              have HT : Hid (ByP f y (k + 1) (lay oo (x, y))) := HS.out.2.1 (HV.out.trans rfl)
              clear HV
              obtain ⟨up, uc, rfl⟩ := HW5.out.1.rd.form
              have hxy : ¬ y ≤ x := by have := HS.out.2.2.2.2; omega
              rcases snoc_cases oo with rfl | ⟨q, t, rfl⟩
              · rw [lay_first (s := (x, y)) hxy] at HT
                clear hxy
                obtain ⟨kx, ky⟩ := (HKK.out _ HW5.out.2).2
                go_upto_region 13 with fail
                go_quiet (fail)
                have HW6 : Hid (Ow (w5.drewN nq) w1.heap.size (.slice up ([] : List Sp).length uc) [] ∧ Ext w1 (w5.drewN nq)) := ⟨HW5.out.1.ext ((Ext.refl _).drewN _), HW5.out.2.drewN _⟩
                clear HW5
                generalize w5.drewN nq = w6 at *
                go_upto_region 15 with fail
                go_region_held3 (fun W => Ext w1 W ∧ W.cell? ⟨eb, k, none⟩ = some (.int .i64 x) ∧ W.cell? ⟨eb, k + 1, none⟩ = some (.int .i64 y))
                  (first | assumption | exact HKK.out _ HW6.out.2.drew | exact HKK.out _ (HW6.out.2.drew.alloc _) | exact HKK.out _ (HW6.out.2.alloc _).drew | exact HKK.out _ k2)
                  (first | (refine step_bk_append _ w1 _ _ _ _ _ _ _ [] [(x, y)] (by rfl) (by rfl) (by rfl) (by rfl) (by first | exact HW6.out.1.ext ((Ext.refl _).drew.alloc _) | exact HW6.out.1.ext ((Ext.refl _).alloc _).drew) (by first | exact rd_one _ _ _ | exact (rd_one _ _ _).ext (Ext.refl _).drew) (by first | (simp; done) | (have h1 := HS.out.2.2.1; have h2 := HN.out; simp at h1 ⊢; omega)) (by first | exact HW6.out.2.drew.alloc _ | exact (HW6.out.2.alloc _).drew) ?_; intro v' W' k1 k2))
                all_goals
                  have HR' : Hid (ByR f w1 W' ed (k + 1) v') := ⟨_, k1, k2, fun h => by rw [h] at hlt; simp at hlt, fun z hz => by rw [HX.out.2] at hz; rw [← Option.some.inj hz]; exact HT.out⟩
                  clear k1 k2 HW6 HS HX HK HKK HT
                  go_wp2
                  go_roundw
                  case rel => exact ⟨k + 1, (by first | rw [wk] | rfl), by omega, fun _ => hlt, HR'.out⟩
                  case measure => first | (rw [wk]; simp [intOf]; omega) | (simp [intOf]; omega)
              · have e0 : (q ++ [t]).length = q.length + 1 := by simp
                rw [e0] at HW5 ⊢
                obtain ⟨rst, hB⟩ := HW5.out.1
                obtain ⟨g, rfl, _, hb, hg, hc, hf⟩ := hB.top
                have HQL : Hid (q.length + 1 ≤ 1600) := by have h1 := HS.out.2.2.1; have h2 := HN.out; rw [e0] at h1; show q.length + 1 ≤ 1600; omega
                obtain ⟨kx, ky⟩ := (HKK.out _ HW5.out.2).2
                have HT2 : Hid (t.2 ≤ x) := HS.out.2.2.2.1 t (by simp)
                clear hB
                obtain ⟨m, hm⟩ : ∃ m, q.length = m := ⟨_, rfl⟩
                have HM : Hid (q.length = m) := hm
                rw [hm] at hc hf HQL HW5 ⊢
                clear hm e0
                have e1 := (wrap_m m HQL.out).1
                have e5 := (wrap_m m HQL.out).2
                have e3 := pos_m m
                have e4 := lt_m m
                by_cases htx : t.2 = x
                · have et : (t.2 == x) = true := by simp [htx]
                  have HL2 : Hid (lay (q ++ [t]) (x, y) = q ++ [(t.1, y)]) := by
                    show _ = _
                    rw [lay_grow (s := (x, y)) hxy (by show x ≤ t.2; omega)]
                    have : max t.2 y = y := by omega
                    rw [this]
                  clear htx hxy
                  go_upto_region 13 with fail
                  go_quiet (fail)
                  have HW6 : Hid (Ow (w5.drewN nq) w1.heap.size (.slice (some ⟨g, 0, none⟩) (m + 1) uc) (q ++ [t]) ∧ Ext w1 (w5.drewN nq)) := ⟨HW5.out.1.ext ((Ext.refl _).drewN _), HW5.out.2.drewN _⟩
                  replace ky : (w5.drewN nq).cell? ⟨eb, k + 1, none⟩ = some (.int .i64 y) := ky
                  replace kx : (w5.drewN nq).cell? ⟨eb, k, none⟩ = some (.int .i64 x) := kx
                  replace hc : (w5.drewN nq).cell? ⟨g, m * 2 + 1, none⟩ = some (.int .i64 t.2) := hc
                  replace hf : (w5.drewN nq).frozen? ⟨g, m * 2 + 1, none⟩ = false := hf
                  clear HW5
                  generalize w5.drewN nq = w6 at *
                  go_wp2
                  go_roundw
                  case rel =>
                    obtain ⟨rst, hB⟩ := HW6.out.1
                    have hm := HM.out
                    subst hm
                    have k2 := hB.grow y
                    refine ⟨k + 1, (by first | rw [wk] | rfl), by omega, fun _ => hlt, q ++ [(t.1, y)], ⟨rst, k2.1⟩, ext_grown hB (Nat.le_refl _) HW6.out.2 k2.2, fun h => by rw [h] at hlt; simp at hlt, fun z hz => ?_⟩
                    rw [HX.out.2] at hz; rw [← Option.some.inj hz, ← HL2.out]; exact HT.out
                  case measure => first | (rw [wk]; simp [intOf]; omega) | (simp [intOf]; omega)
                · have et : (t.2 == x) = false := by simp [htx]
                  rw [lay_more (s := (x, y)) hxy (by have := HT2.out; show ¬ x ≤ t.2; omega)] at HT
                  clear htx hxy
                  go_upto_region 13 with fail
                  go_quiet (fail)
                  have HW6 : Hid (Ow (w5.drewN nq) w1.heap.size (.slice (some ⟨g, 0, none⟩) (m + 1) uc) (q ++ [t]) ∧ Ext w1 (w5.drewN nq)) := ⟨HW5.out.1.ext ((Ext.refl _).drewN _), HW5.out.2.drewN _⟩
                  clear HW5
                  generalize w5.drewN nq = w6 at *
                  go_upto_region 15 with fail
                  go_region_held3 (fun W => Ext w1 W ∧ W.cell? ⟨eb, k, none⟩ = some (.int .i64 x) ∧ W.cell? ⟨eb, k + 1, none⟩ = some (.int .i64 y))
                    (first | assumption | exact HKK.out _ HW6.out.2.drew | exact HKK.out _ (HW6.out.2.drew.alloc _) | exact HKK.out _ (HW6.out.2.alloc _).drew | exact HKK.out _ k2)
                    (first | (refine step_bk_append _ w1 _ _ _ _ _ _ _ (q ++ [t]) [(x, y)] (by rfl) (by rfl) (by rfl) (by rfl) (by first | exact HW6.out.1.ext ((Ext.refl _).drew.alloc _) | exact HW6.out.1.ext ((Ext.refl _).alloc _).drew) (by first | exact rd_one _ _ _ | exact (rd_one _ _ _).ext (Ext.refl _).drew) (by first | (simp; done) | (have h1 := HS.out.2.2.1; have h2 := HN.out; simp at h1 ⊢; omega)) (by first | exact HW6.out.2.drew.alloc _ | exact (HW6.out.2.alloc _).drew) ?_; intro v' W' k1 k2))
                  all_goals
                    have HR' : Hid (ByR f w1 W' ed (k + 1) v') := ⟨_, k1, k2, fun h => by rw [h] at hlt; simp at hlt, fun z hz => by rw [HX.out.2] at hz; rw [← Option.some.inj hz]; exact HT.out⟩
                    clear k1 k2 HW6 HS HX HK HKK HT
                    go_wp2
                    go_roundw
                    case rel => exact ⟨k + 1, (by first | rw [wk] | rfl), by omega, fun _ => hlt, HR'.out⟩
                    case measure => first | (rw [wk]; simp [intOf]; omega) | (simp [intOf]; omega)
        · cases xa with
          | false =>
            cases xb with
            | false =>
              have HR' : Hid (ByR f w1 w5 ed (k + 1) u8) := ⟨oo, HW5.out.1, HW5.out.2, fun h => by rw [h] at hlt; simp at hlt, fun z hz => by rw [HX.out.2] at hz; rw [← Option.some.inj hz]; exact HS.out.1 (HV.out.trans rfl)⟩
              clear HW5 HS HX HK HKK HV
              go_wp2
              go_roundw
              case rel => exact ⟨k + 1, (by first | rw [wk] | rfl), by omega, fun _ => hlt, HR'.out⟩
              case measure => first | (rw [wk]; simp [intOf]; omega) | (simp [intOf]; omega)
            | true =>
              have HR' : Hid (ByR f w1 w5 ed (k + 1) u8) := ⟨oo, HW5.out.1, HW5.out.2, fun h => by rw [h] at hlt; simp at hlt, fun z hz => by rw [HX.out.2] at hz; rw [← Option.some.inj hz]; exact HS.out.1 (HV.out.trans rfl)⟩
              clear HW5 HS HX HK HKK HV
              go_wp2
              go_roundw
              case rel => exact ⟨k + 1, (by first | rw [wk] | rfl), by omega, fun _ => hlt, HR'.out⟩
              case measure => first | (rw [wk]; simp [intOf]; omega) | (simp [intOf]; omega)
          | true =>
            cases xb with
            | false =>
              have HT : Hid (ByP f y (k + 1) (lay oo (x, y))) := HS.out.2.1 (HV.out.trans rfl)
              clear HV
              obtain ⟨up, uc, rfl⟩ := HW5.out.1.rd.form
              have hxy : ¬ y ≤ x := by have := HS.out.2.2.2.2; omega
              rcases snoc_cases oo with rfl | ⟨q, t, rfl⟩
              · rw [lay_first (s := (x, y)) hxy] at HT
                clear hxy
                obtain ⟨kx, ky⟩ := (HKK.out _ HW5.out.2).2
                go_upto_region 13 with fail
                go_quiet (fail)
                have HW6 : Hid (Ow (w5.drewN nq) w1.heap.size (.slice up ([] : List Sp).length uc) [] ∧ Ext w1 (w5.drewN nq)) := ⟨HW5.out.1.ext ((Ext.refl _).drewN _), HW5.out.2.drewN _⟩
                clear HW5
                generalize w5.drewN nq = w6 at *
                go_upto_region 15 with fail
                go_region_held3 (fun W => Ext w1 W ∧ W.cell? ⟨eb, k, none⟩ = some (.int .i64 x) ∧ W.cell? ⟨eb, k + 1, none⟩ = some (.int .i64 y))
                  (first | assumption | exact HKK.out _ HW6.out.2.drew | exact HKK.out _ (HW6.out.2.drew.alloc _) | exact HKK.out _ (HW6.out.2.alloc _).drew | exact HKK.out _ k2)
                  (first | (refine step_bk_append _ w1 _ _ _ _ _ _ _ [] [(x, y)] (by rfl) (by rfl) (by rfl) (by rfl) (by first | exact HW6.out.1.ext ((Ext.refl _).drew.alloc _) | exact HW6.out.1.ext ((Ext.refl _).alloc _).drew) (by first | exact rd_one _ _ _ | exact (rd_one _ _ _).ext (Ext.refl _).drew) (by first | (simp; done) | (have h1 := HS.out.2.2.1; have h2 := HN.out; simp at h1 ⊢; omega)) (by first | exact HW6.out.2.drew.alloc _ | exact (HW6.out.2.alloc _).drew) ?_; intro v' W' k1 k2))
                all_goals
                  have HR' : Hid (ByR f w1 W' ed (k + 1) v') := ⟨_, k1, k2, fun h => by rw [h] at hlt; simp at hlt, fun z hz => by rw [HX.out.2] at hz; rw [← Option.some.inj hz]; exact HT.out⟩
                  clear k1 k2 HW6 HS HX HK HKK HT
                  go_wp2
                  go_roundw
                  case rel => exact ⟨k + 1, (by first | rw [wk] | rfl), by omega, fun _ => hlt, HR'.out⟩
                  case measure => first | (rw [wk]; simp [intOf]; omega) | (simp [intOf]; omega)
              · have e0 : (q ++ [t]).length = q.length + 1 := by simp
                rw [e0] at HW5 ⊢
                obtain ⟨rst, hB⟩ := HW5.out.1
                obtain ⟨g, rfl, _, hb, hg, hc, hf⟩ := hB.top
                have HQL : Hid (q.length + 1 ≤ 1600) := by have h1 := HS.out.2.2.1; have h2 := HN.out; rw [e0] at h1; show q.length + 1 ≤ 1600; omega
                obtain ⟨kx, ky⟩ := (HKK.out _ HW5.out.2).2
                have HT2 : Hid (t.2 ≤ x) := HS.out.2.2.2.1 t (by simp)
                clear hB
                obtain ⟨m, hm⟩ : ∃ m, q.length = m := ⟨_, rfl⟩
                have HM : Hid (q.length = m) := hm
                rw [hm] at hc hf HQL HW5 ⊢
                clear hm e0
                have e1 := (wrap_m m HQL.out).1
                have e5 := (wrap_m m HQL.out).2
                have e3 := pos_m m
                have e4 := lt_m m
                by_cases htx : t.2 = x
                · have et : (t.2 == x) = true := by simp [htx]
                  have HL2 : Hid (lay (q ++ [t]) (x, y) = q ++ [(t.1, y)]) := by
                    show _ = _
                    rw [lay_grow (s := (x, y)) hxy (by show x ≤ t.2; omega)]
                    have : max t.2 y = y := by omega
                    rw [this]
                  clear htx hxy
                  go_upto_region 13 with fail
                  go_quiet (fail)
                  have HW6 : Hid (Ow (w5.drewN nq) w1.heap.size (.slice (some ⟨g, 0, none⟩) (m + 1) uc) (q ++ [t]) ∧ Ext w1 (w5.drewN nq)) := ⟨HW5.out.1.ext ((Ext.refl _).drewN _), HW5.out.2.drewN _⟩
                  replace ky : (w5.drewN nq).cell? ⟨eb, k + 1, none⟩ = some (.int .i64 y) := ky
                  replace kx : (w5.drewN nq).cell? ⟨eb, k, none⟩ = some (.int .i64 x) := kx
                  replace hc : (w5.drewN nq).cell? ⟨g, m * 2 + 1, none⟩ = some (.int .i64 t.2) := hc
                  replace hf : (w5.drewN nq).frozen? ⟨g, m * 2 + 1, none⟩ = false := hf
                  clear HW5
                  generalize w5.drewN nq = w6 at *
                  go_wp2
                  go_roundw
                  case rel =>
                    obtain ⟨rst, hB⟩ := HW6.out.1
                    have hm := HM.out
                    subst hm
                    have k2 := hB.grow y
                    refine ⟨k + 1, (by first | rw [wk] | rfl), by omega, fun _ => hlt, q ++ [(t.1, y)], ⟨rst, k2.1⟩, ext_grown hB (Nat.le_refl _) HW6.out.2 k2.2, fun h => by rw [h] at hlt; simp at hlt, fun z hz => ?_⟩
                    rw [HX.out.2] at hz; rw [← Option.some.inj hz, ← HL2.out]; exact HT.out
                  case measure => first | (rw [wk]; simp [intOf]; omega) | (simp [intOf]; omega)
                · have et : (t.2 == x) = false := by simp [htx]
                  rw [lay_more (s := (x, y)) hxy (by have := HT2.out; show ¬ x ≤ t.2; omega)] at HT
                  clear htx hxy
                  go_upto_region 13 with fail
                  go_quiet (fail)
                  have HW6 : Hid (Ow (w5.drewN nq) w1.heap.size (.slice (some ⟨g, 0, none⟩) (m + 1) uc) (q ++ [t]) ∧ Ext w1 (w5.drewN nq)) := ⟨HW5.out.1.ext ((Ext.refl _).drewN _), HW5.out.2.drewN _⟩
                  clear HW5
                  generalize w5.drewN nq = w6 at *
                  go_upto_region 15 with fail
                  go_region_held3 (fun W => Ext w1 W ∧ W.cell? ⟨eb, k, none⟩ = some (.int .i64 x) ∧ W.cell? ⟨eb, k + 1, none⟩ = some (.int .i64 y))
                    (first | assumption | exact HKK.out _ HW6.out.2.drew | exact HKK.out _ (HW6.out.2.drew.alloc _) | exact HKK.out _ (HW6.out.2.alloc _).drew | exact HKK.out _ k2)
                    (first | (refine step_bk_append _ w1 _ _ _ _ _ _ _ (q ++ [t]) [(x, y)] (by rfl) (by rfl) (by rfl) (by rfl) (by first | exact HW6.out.1.ext ((Ext.refl _).drew.alloc _) | exact HW6.out.1.ext ((Ext.refl _).alloc _).drew) (by first | exact rd_one _ _ _ | exact (rd_one _ _ _).ext (Ext.refl _).drew) (by first | (simp; done) | (have h1 := HS.out.2.2.1; have h2 := HN.out; simp at h1 ⊢; omega)) (by first | exact HW6.out.2.drew.alloc _ | exact (HW6.out.2.alloc _).drew) ?_; intro v' W' k1 k2))
                  all_goals
                    have HR' : Hid (ByR f w1 W' ed (k + 1) v') := ⟨_, k1, k2, fun h => by rw [h] at hlt; simp at hlt, fun z hz => by rw [HX.out.2] at hz; rw [← Option.some.inj hz]; exact HT.out⟩
                    clear k1 k2 HW6 HS HX HK HKK HT
                    go_wp2
                    go_roundw
                    case rel => exact ⟨k + 1, (by first | rw [wk] | rfl), by omega, fun _ => hlt, HR'.out⟩
                    case measure => first | (rw [wk]; simp [intOf]; omega) | (simp [intOf]; omega)
            | true =>
              have HR' : Hid (ByR f w1 w5 ed (k + 1) u8) := ⟨oo, HW5.out.1, HW5.out.2, fun h => by rw [h] at hlt; simp at hlt, fun z hz => by rw [HX.out.2] at hz; rw [← Option.some.inj hz]; exact HS.out.1 (HV.out.trans rfl)⟩
              clear HW5 HS HX HK HKK HV
              go_wp2
              go_roundw
              case rel => exact ⟨k + 1, (by first | rw [wk] | rfl), by omega, fun _ => hlt, HR'.out⟩
              case measure => first | (rw [wk]; simp [intOf]; omega) | (simp [intOf]; omega)
    · have hltI : ¬ ((k + 1 : Nat) : Int) < (ed.length : Int) := by omega
      have HQ : Hid (SetQ w (2 * (a.length + b.length)) f (.returned u8) wr) := by
        obtain ⟨o, h1, h2, h3, h4⟩ := HO.out
        have hle := HE1.out.2.2.2.2
        simp at hle
        by_cases he : ed = []
        · have ho := h3 he
          subst ho
          obtain ⟨rfl, rfl⟩ := EdP.nil (he ▸ HE1.out.2)
          exact ⟨u8, [], rfl, h1.mono HE1.out.1.size, plain_nil, fun n => by rw [← HF.out, fOf_nil]; rfl, by intro s hs; simp at hs, by simp, HE1.out.1.trans h2⟩
        · have hlt2 := hne he
          obtain ⟨x, hx⟩ : ∃ x, ed[k]? = some x := ⟨_, List.getElem?_eq_getElem hlt2⟩
          have hP := h4 x hx
          have hP' := hP
          rw [← HF.out] at hP'
          exact ⟨u8, o, rfl, h1.mono HE1.out.1.size, hP.1, fun n => by rw [hP'.last HE1.out.2 hx (by omega), HF.out], hP.2.1, by have := hP.2.2.2.2; omega, HE1.out.1.trans h2⟩
      go_wp2
      go_ret
      exact HQ.out
end Go.Proofs.Ytgphjbkadjagpaa
