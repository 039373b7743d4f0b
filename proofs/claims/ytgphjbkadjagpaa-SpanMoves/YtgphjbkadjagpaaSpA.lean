/-
  Lists of spans in a world: slices of structs of two ints, read; Has and Same of the document's answer.
-/
import Derived.Test.YtgphjbkadjagpaaChecked
import Derived.Test.YtgphjbkadjagpaaSpN
import Derived.Deep.AppendLies
import Derived.Laws.OwnMore
import Derived.WalkLawsBesides
import Derived.Deep.DeepCutAuto
import Derived.Deep.Light
import Derived.Deep.CutBlock
import Derived.Laws.StructEq
import Derived.Shelf.SlicesE.Kit
namespace Go.Proofs.Ytgphjbkadjagpaa
open Go.RowKit
set_option maxHeartbeats 1000000

/-- v holds the spans l. -/
def Rd (w : World) (v : Value) (l : List Sp) : Prop :=
  (v = .slice none 0 0 ∧ l = []) ∨ ∃ b off c, v = .slice (some ⟨b, off, none⟩) l.length c ∧ l.length ≤ c ∧ b < w.heap.size ∧
    ∀ i s, l[i]? = some s → w.cell? ⟨b, off + i * 2, none⟩ = some (.int .i64 s.1) ∧ w.cell? ⟨b, off + i * 2 + 1, none⟩ = some (.int .i64 s.2)
theorem Rd.ext {w w' : World} {v : Value} {l : List Sp} (h : Rd w v l) (e : Ext w w') : Rd w' v l := by
  rcases h with h | ⟨b, off, c, rfl, h1, h2, h3⟩
  · exact .inl h
  · exact .inr ⟨b, off, c, rfl, h1, Nat.lt_of_lt_of_le h2 e.size, fun i s hs => ⟨(e.cell.1 b _ h2).trans (h3 i s hs).1, (e.cell.1 b _ h2).trans (h3 i s hs).2⟩⟩
theorem Rd.nil (w : World) : Rd w (.slice none 0 0) [] := .inl ⟨rfl, rfl⟩
/-- The form of what is read. -/
theorem Rd.form {w : World} {v : Value} {l : List Sp} (h : Rd w v l) : ∃ p c, v = .slice p l.length c := by
  rcases h with ⟨rfl, rfl⟩ | ⟨b, off, c, rfl, _⟩
  · exact ⟨_, _, rfl⟩
  · exact ⟨_, _, rfl⟩
theorem Rd.at {w : World} {p : Option Addr} {c n : Nat} {l : List Sp} (h : Rd w (.slice p n c) l) {k : Nat} (hk : k < l.length) :
    ∃ b off s, p = some ⟨b, off, none⟩ ∧ l[k]? = some s ∧ n = l.length ∧ l.length ≤ c ∧ ∀ w', Ext w w' → w'.cell? ⟨b, off + k * 2, none⟩ = some (.int .i64 s.1) ∧ w'.cell? ⟨b, off + k * 2 + 1, none⟩ = some (.int .i64 s.2) := by
  rcases h with ⟨_, h2⟩ | ⟨b, off, c', h1, h2, h3, h4⟩
  · rw [h2] at hk; simp at hk
  · simp at h1
    obtain ⟨rfl, rfl, rfl⟩ := h1
    refine ⟨b, off, l[k], rfl, List.getElem?_eq_getElem hk, rfl, h2, fun w' e => ?_⟩
    have := h4 k l[k] (List.getElem?_eq_getElem hk)
    exact ⟨(e.cell.1 b _ h3).trans this.1, (e.cell.1 b _ h3).trans this.2⟩
/-- What is handed in: nothing may lie anywhere. -/
def Ra (w : World) (v : Value) (l : List Sp) : Prop := Rd w v l ∨ (l = [] ∧ ∃ p, v = .slice (some p) 0 0)
theorem Rd.ra {w : World} {v : Value} {l : List Sp} (h : Rd w v l) : Ra w v l := .inl h
theorem Ra.ext {w w' : World} {v : Value} {l : List Sp} (h : Ra w v l) (e : Ext w w') : Ra w' v l := h.imp (fun h => h.ext e) id
theorem Ra.form {w : World} {v : Value} {l : List Sp} (h : Ra w v l) : ∃ p c, v = .slice p l.length c := by
  rcases h with h | ⟨rfl, p, rfl⟩
  · exact h.form
  · exact ⟨_, _, rfl⟩
theorem Ra.at {w : World} {p : Option Addr} {c n : Nat} {l : List Sp} (h : Ra w (.slice p n c) l) {k : Nat} (hk : k < l.length) :
    ∃ b off s, p = some ⟨b, off, none⟩ ∧ l[k]? = some s ∧ n = l.length ∧ l.length ≤ c ∧ ∀ w', Ext w w' → w'.cell? ⟨b, off + k * 2, none⟩ = some (.int .i64 s.1) ∧ w'.cell? ⟨b, off + k * 2 + 1, none⟩ = some (.int .i64 s.2) := by
  rcases h with h | ⟨rfl, _⟩
  · exact h.at hk
  · simp at hk
theorem take_snoc {l : List Sp} {k : Nat} {s : Sp} (h : l[k]? = some s) : l.take (k + 1) = l.take k ++ [s] := by
  rw [List.take_add_one, h]; rfl
theorem wrap_succ (k : Nat) (h : k ≤ 1000000) : wrap64 ((k : Int) + 1) = ((k + 1 : Nat) : Int) := by unfold wrap64; omega
theorem hasB_one (s : Sp) (n : Int) : hasB [s] n = inB s n := by simp [hasB]

theorem rhas_any (w : World) (v : Value) (l : List Sp) (n : Int) (h : Ra w v l) (hl : l.length ≤ 10000) :
    Calls Try.prog 18 #[v, .int .i64 n] w fun e w' => e = .returned (.bool (hasB l n)) ∧ Ext w w' := by
  obtain ⟨p, c, rfl⟩ := h.form
  have HR : Hid (Ra w (.slice p l.length c) l) := h
  have HL : Hid (l.length ≤ 10000) := hl
  clear h hl
  go_enter Try.func18, Try.ntmps18
  go_wp2
  go_loopw [5] (fun x wr => ∃ k : Nat, x = .int .i64 (k : Int) ∧ k ≤ l.length ∧ Ext w wr ∧ hasB (l.take k) n = false) (fun x _ => l.length - (intOf x).toNat)
  case atStart => exact ⟨0, rfl, Nat.zero_le _, Ext.refl _, rfl⟩
  case round =>
    obtain ⟨k, rfl, hk, hE, hn⟩ := hrel
    have HE : Hid (Ext w wr) := hE
    have HN : Hid (hasB (l.take k) n = false) := hn
    clear hE hn
    rcases Nat.lt_or_ge k l.length with hlt | hge
    · have hltI : (k : Int) < (l.length : Int) := by omega
      obtain ⟨b, off, s, rfl, hs, _, _, hc⟩ := HR.out.at hlt
      obtain ⟨c1, c2⟩ := hc _ HE.out
      have HS : Hid (l[k]? = some s) := hs
      have HT : Hid (inB s n = false → hasB (l.take (k + 1)) n = false) := fun hh => by rw [take_snoc hs, hasB_append, HN.out, hasB_one, hh]; rfl
      clear hs hc
      have wk := wrap_succ k (by have := HL.out; omega)
      by_cases b1 : s.1 ≤ n
      · by_cases b2 : n < s.2
        · go_wp2
          go_ret
          refine ⟨ret_bool ?_, HE.out⟩
          exact (hasB_iff.mpr ⟨s, List.mem_of_getElem? HS.out, b1, b2⟩).symm
        · go_wp2
          go_roundw
          case rel => exact ⟨k + 1, by rw [wk], hlt, HE.out, HT.out (by simp [inB, b2])⟩
          case measure => rw [wk]; simp [intOf]; omega
      · go_wp2
        go_roundw
        case rel => exact ⟨k + 1, by rw [wk], hlt, HE.out, HT.out (by simp [inB, b1])⟩
        case measure => rw [wk]; simp [intOf]; omega
    · have hltI : ¬ (k : Int) < (l.length : Int) := by omega
      go_wp2
      go_ret
      refine ⟨ret_bool ?_, HE.out⟩
      rw [← HN.out, List.take_of_length_le hge]

theorem eq_sp (x1 x2 y1 y2 : Int) (w : World) : Sem.run Try.prog (Op.equalIn 10000 28 (.agg #[.int .i64 x1, .int .i64 x2]) (.agg #[.int .i64 y1, .int .i64 y2])) w = .ok (x1 == y1 && x2 == y2) w := by
  have u3 := Try.underlying3
  have a3 := Try.isAgg3
  have z3 := Try.sizeOf3
  have hS : Try.prog.underlying 28 = some (.struct (Try.prog.fieldsOf 28)) := by kernel_rfl
  have hp : Try.prog.stoodInHeld 28 = false := by kernel_rfl
  rw [show (10000 : Nat) = 9999 + 1 from rfl, run_equalIn_agg w 9999 28 _ _ hS hp]
  simp only [Program.fieldsOf, Try.underlying28]
  go_simp
  by_cases h1 : x1 = y1 <;> by_cases h2 : x2 = y2 <;> simp [h1, h2]
theorem gd_sp (x y : Array Value) (op : BinOp) (a b : Operand) (w : World) : (eqGuard op 28 a b (.agg x) (.agg y)).run Try.prog w = .ok () w := run_eqGuard_agg w op 28 a b x y (by kernel_rfl)

theorem same_any (w : World) (v u : Value) (l m : List Sp) (h : Rd w v l) (g : Rd w u m) (hl : l.length ≤ 10000) (hm : m.length ≤ 10000) :
    Calls Try.prog 7 #[v, u] w fun e w' => e = .returned (.bool (decide (l = m))) ∧ Ext w w' := by
  obtain ⟨p, c, rfl⟩ := h.form
  obtain ⟨q, d, rfl⟩ := g.form
  have HR : Hid (Rd w (.slice p l.length c) l) := h
  have HG : Hid (Rd w (.slice q m.length d) m) := g
  have HL : Hid (l.length ≤ 10000 ∧ m.length ≤ 10000) := ⟨hl, hm⟩
  clear h hl g hm
  go_enter Try.func7, Try.ntmps7
  by_cases hne : l.length = m.length
  · have HM : Hid (l.length = m.length) := hne
    have e1 : ((l.length : Int) != (m.length : Int)) = false := by simp [hne]
    clear hne
    go_wp2
    go_loopw [5] (fun x wr => ∃ k : Nat, x = .int .i64 (k : Int) ∧ k ≤ l.length ∧ Ext w wr ∧ l.take k = m.take k) (fun x _ => l.length - (intOf x).toNat)
    case atStart => exact ⟨0, rfl, Nat.zero_le _, Ext.refl _, rfl⟩
    case round =>
      obtain ⟨k, rfl, hk, hE, hn⟩ := hrel
      have HE : Hid (Ext w wr) := hE
      have HN : Hid (l.take k = m.take k) := hn
      clear hE hn e1
      rcases Nat.lt_or_ge k l.length with hlt | hge
      · have hltI : (k : Int) < (l.length : Int) := by omega
        have hltJ : (k : Int) < (m.length : Int) := by have := HM.out; omega
        obtain ⟨b, off, s, rfl, hs, _, _, hc⟩ := HR.out.at hlt
        obtain ⟨b', off', t, rfl, ht, _, _, hc'⟩ := HG.out.at (k := k) (by have := HM.out; omega)
        obtain ⟨c1, c2⟩ := hc _ HE.out
        obtain ⟨c3, c4⟩ := hc' _ HE.out
        have HS : Hid (l[k]? = some s ∧ m[k]? = some t) := ⟨hs, ht⟩
        clear hs hc ht hc'
        have wk := wrap_succ k (by have := HL.out; omega)
        obtain ⟨s1, s2⟩ := s
        obtain ⟨t1, t2⟩ := t
        go_upto_region 6 with fail
        have qE := eq_sp s1 s2 t1 t2
        have qG := gd_sp
        by_cases he : (s1 == t1 && s2 == t2) = true
        · have HT : Hid (l.take (k + 1) = m.take (k + 1)) := by
            show _ = _
            rw [take_snoc HS.out.1, take_snoc HS.out.2, HN.out]
            simp at he
            rw [he.1, he.2]
          rw [he] at qE
          clear he
          go_quiet (fail)
          go_wp2
          go_roundw
          case rel => exact ⟨k + 1, by rw [wk], hlt, HE.out.drewN _, HT.out⟩
          case measure => rw [wk]; simp [intOf]; omega
        · rw [Bool.not_eq_true] at he
          have HT : Hid (l ≠ m) := by
            show l ≠ m
            rintro rfl
            have h1 := HS.out.1.symm.trans HS.out.2
            simp at h1
            simp [h1.1, h1.2] at he
          rw [he] at qE
          clear he
          go_quiet (fail)
          go_wp2
          go_ret
          exact ⟨ret_bool (by simp [HT.out]), HE.out.drewN _⟩
      · have hltI : ¬ (k : Int) < (l.length : Int) := by omega
        go_wp2
        go_ret
        refine ⟨ret_bool ?_, HE.out⟩
        have h1 := HN.out
        rw [List.take_of_length_le hge, List.take_of_length_le (by have := HM.out; omega)] at h1
        simp [h1]
  · have e1 : ((l.length : Int) != (m.length : Int)) = true := by simp; omega
    have HM : Hid (l ≠ m) := by intro h; exact hne (by rw [h])
    clear hne
    go_wp2
    go_ret
    exact ⟨ret_bool (by simp [HM.out]), Ext.refl _⟩
end Go.Proofs.Ytgphjbkadjagpaa
