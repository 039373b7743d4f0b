/-
  The contract of package real's Mean, in the model's floats.
-/
import Derived.Test.YtbonaldlljdaoaaFloatA
import Derived.Test.YtbonaldlljdaoaaFloatN
namespace Go.Proofs.Ytbonaldlljdaoaa
open Go.RowKit
set_option maxHeartbeats 1000000

/-- v holds the words l. -/
def RowN (w : World) (v : Value) (l : List Nat) : Prop :=
  (l = [] ∧ ∃ a c, v = .slice a 0 c) ∨ ∃ b o c, v = .slice (some ⟨b, o, none⟩) l.length c ∧ b < w.heap.size ∧ ∀ i x, l[i]? = some x → w.cell? ⟨b, o + i, none⟩ = some (.int .u64 (x : Nat))
theorem RowN.ext {w w' : World} {v : Value} {l : List Nat} (h : RowN w v l) (e : Ext w w') : RowN w' v l := by
  rcases h with h | ⟨b, o, c, rfl, h1, h2⟩
  · exact .inl h
  · exact .inr ⟨b, o, c, rfl, Nat.lt_of_lt_of_le h1 e.size, fun i x hx => (e.cell.1 b (o + i) h1).trans (h2 i x hx)⟩
/-- A sum, in order; none: a NaN. -/
def sumW (l : List Nat) : Option Nat := l.foldl (fun s x => s.bind fun a => Ieee.double.add a x) (some 0)
theorem sumW_snoc (l : List Nat) (x : Nat) : sumW (l ++ [x]) = (sumW l).bind fun a => Ieee.double.add a x := by unfold sumW; rw [List.foldl_append]; rfl
/-- s is the sum's word, or a NaN where there is none. -/
def Sum (o : Option Nat) (s : Nat) : Prop := o = some s ∨ (o = none ∧ nanW s)
theorem Sum.add_some {o : Option Nat} {s x r : Nat} (h : Sum o s) (hr : Ieee.double.add s x = some r) : Sum (o.bind fun a => Ieee.double.add a x) r := by
  rcases h with h | ⟨_, h⟩
  · left; rw [h]; exact hr
  · rw [nan_add x h] at hr; cases hr
theorem Sum.add_none {o : Option Nat} {s x r : Nat} (h : Sum o s) (hn : Ieee.double.add s x = none) (hr : nanW r) : Sum (o.bind fun a => Ieee.double.add a x) r := by
  right
  refine ⟨?_, hr⟩
  rcases h with h | ⟨h, _⟩
  · rw [h]; exact hn
  · rw [h]; rfl
/-- The mean. -/
def meanW (l : List Nat) : Nat := ((sumW l).bind fun s => Ieee.double.div s (floatOfInt .f64 (l.length : Int))).getD 9221120237041090560
theorem mean_any (l : List Nat) (v : Value) (w : World) (h : RowN w v l) (hl : l.length ≤ 1000) :
    Calls Try.prog 20 #[v] w fun e w' => e = .returned (.int .u64 (meanW l : Nat)) ∧ Ext w w' := by
  obtain ⟨a, c, hv⟩ : ∃ a c, v = .slice a l.length c := by
    rcases h with ⟨rfl, a, c, hv⟩ | ⟨b, o, c, hv, _⟩
    · exact ⟨a, c, hv⟩
    · exact ⟨_, c, hv⟩
  have HC : Hid (∀ i, i < l.length → ∃ b o x, a = some ⟨b, o, none⟩ ∧ b < w.heap.size ∧ l[i]? = some x ∧ w.cell? ⟨b, o + i, none⟩ = some (.int .u64 (x : Nat))) := by
    intro i hi
    rcases h with ⟨rfl, _⟩ | ⟨b, o, c', hv', hb, hc⟩
    · simp at hi
    · rw [hv] at hv'
      simp at hv'
      exact ⟨b, o, l[i], hv'.1, hb, List.getElem?_eq_getElem hi, hc i _ (List.getElem?_eq_getElem hi)⟩
  subst hv
  have HM : Hid (meanW l = ((sumW l).bind fun s => Ieee.double.div s (floatOfInt .f64 (l.length : Int))).getD 9221120237041090560) := rfl
  have HT : Hid (l.take l.length = l) := List.take_length
  clear h
  generalize l.length = L at *
  generalize meanW l = M at *
  have hLI : (L : Int) ≤ 1000 := by omega
  go_enter Try.func20, Try.ntmps20
  go_wp2
  go_loopw [3, 9] (fun sv iv wr => ∃ i s : Nat, sv = .float .f64 s ∧ iv = .int .i64 (i : Int) ∧ i ≤ L ∧ Sum (sumW (l.take i)) s ∧ Ext w wr) (fun _ iv _ => (2000 - intOf iv).toNat)
  case atStart => exact ⟨0, 0, rfl, rfl, Nat.zero_le _, .inl rfl, Ext.refl _⟩
  case round =>
    obtain ⟨i, s, rfl, rfl, hi, hS, hE⟩ := hrel
    rcases Nat.lt_or_ge i L with g | g
    · obtain ⟨b, o, x, rfl, hb, hx, hc0⟩ := HC.out i g
      have hc := (hE.cell.1 b (o + i) hb).trans hc0
      have HTS : Hid (sumW (l.take (i + 1)) = (sumW (l.take i)).bind fun a => Ieee.double.add a x) := by
        show sumW (l.take (i + 1)) = _
        rw [List.take_add_one, hx]; exact sumW_snoc _ _
      have HI : Hid (i + 1 ≤ L) := g
      have gI : (i : Int) < (L : Int) := by omega
      have kb := fun W => from_bits x W
      clear hi g hc0 hx
      cases hr : Ieee.double.add s x with
      | some r =>
        have HN : Hid (Sum (sumW (l.take (i + 1))) r) := by
          show Sum (sumW (l.take (i + 1))) r
          rw [HTS.out]; exact hS.add_some hr
        have ka := fun W => run_fadd s x r hr W
        clear hS hr
        go_wp2
        go_roundw
        case rel => exact ⟨i + 1, r, rfl, by go_num, HI.out, HN.out, hE⟩
        case measure => simp [intOf]; omega
      | none =>
        have HN : Hid (∀ r, nanW r → Sum (sumW (l.take (i + 1))) r) := by
          intro r hn
          rw [HTS.out]; exact hS.add_none hr hn
        have ka := fun W => run_fadd_nan s x hr W
        clear hS hr
        go_wp2
        go_roundw
        case rel => exact ⟨i + 1, _, rfl, by go_num, HI.out, HN.out _ (nanOf_nan _ _ _), hE.drew⟩
        case measure => simp [intOf]; omega
    · have hiL : i = L := by omega
      subst hiL
      have HS : Hid (Sum (sumW l) s) := by
        show Sum (sumW l) s
        rw [HT.out] at hS; exact hS
      obtain ⟨N, hN⟩ : ∃ N, N = floatOfInt .f64 (i : Int) := ⟨_, rfl⟩
      have eN : floatOfInt .f64 (i : Int) = N := hN.symm
      have HMM : Hid (M = ((sumW l).bind fun s => Ieee.double.div s N).getD 9221120237041090560) := by
        show M = _
        rw [HM.out, eN]
      clear hi g hS hN HC
      cases hr : Ieee.double.div s N with
      | some r =>
        obtain ⟨hnn, hlt⟩ := div_notnan hr
        have HR : Hid (M = r) := by
          show M = r
          rw [HMM.out]
          rcases HS.out with e | ⟨_, e⟩
          · rw [e]; show (Ieee.double.div s N).getD _ = r; rw [hr]; rfl
          · rw [nan_div N e] at hr; cases hr
        have kq := fun W => run_fquo s N r hr W
        have kn := fun W => isnan_any r W
        rw [real_order hnn] at kn
        have kt := fun W => to_bits r W
        clear hnn hlt hr
        go_wp2_with fail
        refine (kn _).mono ?_
        rintro e w1 ⟨rfl, rfl⟩
        go_wp2
        go_ret
        exact ⟨ret_int (by rw [HR.out]), hE⟩
      | none =>
        have HR : Hid (M = 9221120237041090560) := by
          show M = 9221120237041090560
          rw [HMM.out]
          rcases HS.out with e | ⟨e, _⟩
          · rw [e]; show (Ieee.double.div s N).getD _ = _; rw [hr]; rfl
          · rw [e]; rfl
        have kq := fun W => run_fquo_nan s N hr W
        have kn := fun W => isnan_any (nanOf s N wr) W
        rw [nan_order (nanOf_nan s N wr)] at kn
        clear hr
        go_wp2_with fail
        refine (kn _).mono ?_
        rintro e w1 ⟨rfl, rfl⟩
        go_wp2
        go_ret
        exact ⟨ret_int (by rw [HR.out]; rfl), hE.drew⟩
end Go.Proofs.Ytbonaldlljdaoaa
