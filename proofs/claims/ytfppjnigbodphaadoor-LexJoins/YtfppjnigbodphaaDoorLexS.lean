/-
  What the laws of words lean on: lists of words held against each other, and the small living call.
-/
import Derived.Test.YtfppjnigbodphaaDoorLexV
import Derived.Deep.DeepCutAuto
import Derived.Deep.Light
import Derived.Deep.CutBlock
namespace Go.Proofs.YtfppjnigbodphaaDoor
open Go.RowKit
set_option maxHeartbeats 1000000

theorem take_more {α : Type} {l : List α} {k : Nat} {s : α} (h : l[k]? = some s) : l.take (k + 1) = l.take k ++ [s] := by
  rw [List.take_add_one, h]; rfl
theorem wrap_one (k : Nat) (h : k ≤ 1000000) : wrap64 ((k : Int) + 1) = ((k + 1 : Nat) : Int) := by unfold wrap64; omega
theorem bs_tl (x : List UInt8) : (bs x).toList = x := by rw [ByteArray.toList_eq]; rfl
theorem eq_tk (s t : Tk) (w : World) : Sem.run Tryd.prog (Op.equalIn 10000 30 (.agg #[.int .i64 s.1, .int .i64 s.2.1, .string (bs s.2.2.1), .int .i64 s.2.2.2.1, .int .i64 s.2.2.2.2]) (.agg #[.int .i64 t.1, .int .i64 t.2.1, .string (bs t.2.2.1), .int .i64 t.2.2.2.1, .int .i64 t.2.2.2.2])) w = .ok (decide (s = t)) w := by
  have u3 := Tryd.underlying3
  have a3 := Tryd.isAgg3
  have z3 := Tryd.sizeOf3
  have u9 := Tryd.underlying9
  have u2 := Tryd.underlying2
  have hS : Tryd.prog.underlying 30 = some (.struct (Tryd.prog.fieldsOf 30)) := by kernel_rfl
  have hp : Tryd.prog.stoodInHeld 30 = false := by kernel_rfl
  obtain ⟨s1, s2, s3, s4, s5⟩ := s
  obtain ⟨t1, t2, t3, t4, t5⟩ := t
  rw [show (10000 : Nat) = 9999 + 1 from rfl, run_equalIn_agg w 9999 30 _ _ hS hp]
  simp only [Program.fieldsOf, Tryd.underlying30]
  go_simp
  rw [bs_tl, bs_tl]
  by_cases h1 : s1 = t1 <;> by_cases h2 : s2 = t2 <;> by_cases h3 : s3 = t3 <;> by_cases h4 : s4 = t4 <;> by_cases h5 : s5 = t5 <;> simp [h1, h2, h3, h4, h5]
theorem gd_tk (x y : Array Value) (op : BinOp) (a b : Operand) (w : World) : (eqGuard op 30 a b (.agg x) (.agg y)).run Tryd.prog w = .ok () w := run_eqGuard_agg w op 30 a b x y (by kernel_rfl)

theorem same_any (w : World) (v u : Value) (l m : List Tk) (h : RdT w v l) (g : RdT w u m) (hl : l.length ≤ 10000) (hm : m.length ≤ 10000) :
    Calls Tryd.prog 9 #[v, u] w fun e w' => e = .returned (.bool (decide (l = m))) ∧ Ext w w' := by
  obtain ⟨p, c, rfl, _⟩ := h.form
  obtain ⟨q, d, rfl, _⟩ := g.form
  have HR : Hid (RdT w (.slice p l.length c) l) := h
  have HG : Hid (RdT w (.slice q m.length d) m) := g
  have HL : Hid (l.length ≤ 10000 ∧ m.length ≤ 10000) := ⟨hl, hm⟩
  clear h hl g hm
  go_enter Tryd.func9, Tryd.ntmps9
  by_cases hne : l.length = m.length
  · have HM : Hid (l.length = m.length) := hne
    have e1 : ((l.length : Int) != (m.length : Int)) = false := by simp [hne]
    clear hne
    go_wp2
    go_loopw [5] (fun x wr => ∃ k : Nat, x = .int .i64 (k : Int) ∧ k ≤ l.length ∧ Ext w wr ∧ l.take k = m.take k) (fun x _ => l.length - (intOf x).toNat)
    case atStart => exact ⟨0, rfl, Nat.zero_le _, Ext.refl _, rfl⟩
    case round =>
      obtain ⟨k, rfl, hk, hE, hn⟩ := hrel
      have HE : Hid (Ext w wr) := hE
      have HN : Hid (l.take k = m.take k) := hn
      clear hE hn e1
      rcases Nat.lt_or_ge k l.length with hlt | hge
      · have hltI : (k : Int) < (l.length : Int) := by omega
        have hltJ : (k : Int) < (m.length : Int) := by have := HM.out; omega
        obtain ⟨b, off, s, rfl, hs, _, hc⟩ := HR.out.at hlt
        obtain ⟨b', off', t, rfl, ht, _, hc'⟩ := HG.out.at (k := k) (by have := HM.out; omega)
        obtain ⟨c1, c2, c3, c4, c5⟩ := hc _ HE.out
        obtain ⟨d1, d2, d3, d4, d5⟩ := hc' _ HE.out
        have HS : Hid (l[k]? = some s ∧ m[k]? = some t) := ⟨hs, ht⟩
        clear hs hc ht hc'
        have wk := wrap_one k (by have := HL.out; omega)
        go_upto_region 6 with fail
        have qE := eq_tk s t
        have qG := gd_tk
        by_cases he : s = t
        · have HT : Hid (l.take (k + 1) = m.take (k + 1)) := by
            show _ = _
            rw [take_more HS.out.1, take_more HS.out.2, HN.out, he]
          rw [decide_eq_true he] at qE
          clear he
          go_quiet (fail)
          go_wp2
          go_roundw
          case rel => exact ⟨k + 1, by rw [wk], hlt, HE.out.drewN _, HT.out⟩
          case measure => rw [wk]; simp [intOf]; omega
        · have HT : Hid (l ≠ m) := by
            show l ≠ m
            rintro rfl
            exact he (Option.some.inj (HS.out.1.symm.trans HS.out.2))
          rw [decide_eq_false he] at qE
          clear he
          go_quiet (fail)
          go_wp2
          go_ret
          exact ⟨ret_bool (by simp [HT.out]), HE.out.drewN _⟩
      · have hltI : ¬ (k : Int) < (l.length : Int) := by omega
        go_wp2
        go_ret
        refine ⟨ret_bool ?_, HE.out⟩
        have h1 := HN.out
        rw [List.take_of_length_le hge, List.take_of_length_le (by have := HM.out; omega)] at h1
        simp [h1]
  · have e1 : ((l.length : Int) != (m.length : Int)) = true := by simp; omega
    have HM : Hid (l ≠ m) := by intro h; exact hne (by rw [h])
    clear hne
    go_wp2
    go_ret
    exact ⟨ret_bool (by simp [HM.out]), Ext.refl _⟩

def lvB : List UInt8 := [83, 85, 77, 40, 65, 49, 58, 36, 66, 50, 41, 60, 62, 34, 97, 34, 34, 98, 34]
def lvT : List Tk := [(2, 0, [83, 85, 77], 0, 0), (3, 3, [40], 0, 0), (2, 4, [65, 49], 0, 0), (3, 6, [58], 0, 0), (2, 7, [36, 66, 50], 0, 0), (3, 10, [41], 0, 0), (3, 11, [60, 62], 0, 0), (1, 13, [97, 34, 98], 0, 0), (5, 19, [], 0, 0)]
theorem lv_is : lexR lvB = (lvT, 0, 0) := by decide +kernel
theorem llives_any (w : World) (hT : Tab7 w) : Calls Tryd.prog 10 #[] w fun e w' => e = .returned (.bool true) ∧ Ext w w' := by
  have c1 := words_any ⟨#[83, 85, 77, 40, 65, 49, 58, 36, 66, 50, 41, 60, 62, 34, 97, 34, 34, 98, 34]⟩ w (by decide) hT
  have C : Calls Tryd.prog 7 #[.string ⟨#[83, 85, 77, 40, 65, 49, 58, 36, 66, 50, 41, 60, 62, 34, 97, 34, 34, 98, 34]⟩] w fun e w' => ∃ v, e = .returned (.tuple #[v, .int .i64 0, .int .i64 0]) ∧ RdT w' v lvT ∧ Ext w w' := by
    unfold WordsQ at c1
    rw [show (⟨#[83, 85, 77, 40, 65, 49, 58, 36, 66, 50, 41, 60, 62, 34, 97, 34, 34, 98, 34]⟩ : ByteArray).data.toList = lvB from rfl, lv_is] at c1
    exact c1
  clear c1 hT
  go_enter Tryd.func10, Tryd.ntmps10
  go_wp2_with fail
  refine C.mono ?_
  rintro e w1 ⟨v, rfl, hR, hE⟩
  obtain ⟨p, c, rfl, hc⟩ := hR.form
  obtain ⟨b, off, t7, rfl, h7, _, k7⟩ := hR.at (k := 7) (by decide)
  obtain ⟨b', off', t6, hp, h6, _, k6⟩ := hR.at (k := 6) (by decide)
  simp at hp
  obtain ⟨rfl, rfl⟩ := hp
  have HE : Hid (Ext w w1) := hE
  obtain ⟨_, _, m7, _, _⟩ := k7 _ (Ext.refl _)
  obtain ⟨_, _, m6, _, _⟩ := k6 _ (Ext.refl _)
  have e7 : t7 = (1, 13, [97, 34, 98], 0, 0) := (Option.some.inj h7).symm
  have e6 : t6 = (3, 11, [60, 62], 0, 0) := (Option.some.inj h6).symm
  subst e7 e6
  have hl : lvT.length = 9 := rfl
  rw [hl] at hc
  clear hR hE h7 h6 k7 k6 C
  rw [hl]
  have s7 : (bs [97, 34, 98]).toList = [97, 34, 98] := bs_tl _
  have s6 : (bs [60, 62]).toList = [60, 62] := bs_tl _
  simp only [] at m7 m6
  generalize bs [97, 34, 98] = q7 at m7 s7
  generalize bs [60, 62] = q6 at m6 s6
  go_wp2_with fail
  go_ret
  exact ⟨rfl, HE.out⟩
end Go.Proofs.YtfppjnigbodphaaDoor
