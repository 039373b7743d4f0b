/-
  The contract of the document's mean.
-/
import Derived.Test.YtbonaldlljdaoaaMeanE
namespace Go.Proofs.Ytbonaldlljdaoaa
open Go.RowKit
set_option maxHeartbeats 1000000

theorem radd_any (x y : Nat) (hx : x < 18446744073709551616) (hy : y < 18446744073709551616) (w : World) : Calls Try.prog 45 #[.int .u64 (x : Nat), .int .u64 (y : Nat)] w fun e w' => e = .returned (.int .u64 (addW x y : Nat)) ∧ Ext w w' := by
  by_cases h : expo x = 2047 ∨ expo y = 2047
  · exact radd_special x y hx hy h w
  · exact radd_num x y hx hy (fun e => h (.inl e)) (fun e => h (.inr e)) w
theorem addW_lt (x y : Nat) : addW x y < 18446744073709551616 := by
  unfold addW
  cases h : Ieee.double.add x y with
  | none => decide
  | some r => exact Ieee.double.add_lt h
theorem nan_word : nanW 9221120237041090560 := read_nan _ (by decide) (by decide)
theorem addW_step (o : Option Nat) (x : Nat) : addW (o.getD 9221120237041090560) x = (o.bind fun a => Ieee.double.add a x).getD 9221120237041090560 := by
  cases o with
  | none => unfold addW; show (Ieee.double.add 9221120237041090560 x).getD _ = _; rw [nan_add x nan_word]; rfl
  | some a => rfl
theorem byW_last (o : Option Nat) (N : Nat) : byW (o.getD 9221120237041090560) N = (o.bind fun s => Ieee.double.div s (floatOfInt .f64 (N : Int))).getD 9221120237041090560 := by
  cases o with
  | none => unfold byW; show (Ieee.double.div 9221120237041090560 _).getD _ = _; rw [nan_div _ nan_word]; rfl
  | some a => rfl
theorem rmean_any (l : List Nat) (v : Value) (w : World) (h : RowN w v l) (hl : l.length ≤ 60) (hw : ∀ x ∈ l, x < 18446744073709551616) :
    Calls Try.prog 21 #[v] w fun e w' => e = .returned (.int .u64 (meanW l : Nat)) ∧ Ext w w' := by
  obtain ⟨a, c, hv⟩ : ∃ a c, v = .slice a l.length c := by
    rcases h with ⟨rfl, a, c, hv⟩ | ⟨b, o, c, hv, _⟩
    · exact ⟨a, c, hv⟩
    · exact ⟨_, c, hv⟩
  rcases Nat.eq_zero_or_pos l.length with hz | hz
  · have hl0 : l = [] := List.eq_nil_of_length_eq_zero hz
    subst hl0 hv
    have eM : meanW [] = 9221120237041090560 := by decide +kernel
    rw [eM]
    clear h hw hl hz
    show Calls Try.prog 21 #[.slice a 0 c] w _
    go_enter Try.func21, Try.ntmps21
    go_wp2_with fail
    refine (nan_any _).mono ?_
    rintro e w1 ⟨rfl, rfl⟩
    go_wp2
    go_ret
    exact ⟨rfl, Ext.refl _⟩
  · have HC : Hid (∀ i, i < l.length → ∃ b o x, a = some ⟨b, o, none⟩ ∧ b < w.heap.size ∧ l[i]? = some x ∧ x < 18446744073709551616 ∧ w.cell? ⟨b, o + i, none⟩ = some (.int .u64 (x : Nat))) := by
      intro i hi
      rcases h with ⟨rfl, _⟩ | ⟨b, o, c', hv', hb, hc⟩
      · simp at hi
      · rw [hv] at hv'
        simp at hv'
        exact ⟨b, o, l[i], hv'.1, hb, List.getElem?_eq_getElem hi, hw _ (List.getElem_mem hi), hc i _ (List.getElem?_eq_getElem hi)⟩
    subst hv
    have HM : Hid (meanW l = byW ((sumW l).getD 9221120237041090560) l.length) := (byW_last _ _).symm
    have HT : Hid (l.take l.length = l) := List.take_length
    clear h hw
    generalize l.length = L at *
    generalize meanW l = M at *
    have hLI : (L : Int) ≤ 60 := by omega
    have hL0 : (0 : Int) < (L : Int) := by omega
    have hLe : ((L : Int) == 0) = false := by simp; omega
    have HL : Hid (0 < L ∧ L ≤ 60) := ⟨hz, hl⟩
    go_enter Try.func21, Try.ntmps21
    go_wp2
    go_loopw [3, 4] (fun sv iv wr => ∃ i s : Nat, sv = .int .u64 (s : Int) ∧ iv = .int .i64 (i : Int) ∧ i ≤ L ∧ s < 18446744073709551616 ∧ s = (sumW (l.take i)).getD 9221120237041090560 ∧ Ext w wr) (fun _ iv _ => (2000 - intOf iv).toNat)
    case atStart => exact ⟨0, 0, rfl, rfl, Nat.zero_le _, by decide, rfl, Ext.refl _⟩
    case round =>
      obtain ⟨i, s, rfl, rfl, hi, hs, hS, hE⟩ := hrel
      rcases Nat.lt_or_ge i L with g | g
      · obtain ⟨b, o, x, rfl, hb, hx, hxl, hc0⟩ := HC.out i g
        have hc := (hE.cell.1 b (o + i) hb).trans hc0
        have cA := fun W => radd_any s x hs hxl W
        have HN : Hid (addW s x < 18446744073709551616 ∧ addW s x = (sumW (l.take (i + 1))).getD 9221120237041090560) := by
          refine ⟨addW_lt s x, ?_⟩
          rw [hS, addW_step, List.take_add_one, hx]
          rw [show sumW (l.take i ++ (some x).toList) = sumW (l.take i ++ [x]) from rfl, sumW_snoc]
        have HI : Hid (i + 1 ≤ L) := g
        have gI : (i : Int) < (L : Int) := by omega
        clear hi g hc0 hx hs hS hxl
        generalize addW s x = S2 at *
        go_wp2_with fail
        refine (cA _).mono ?_
        rintro e w1 ⟨rfl, E1⟩
        go_wp2
        go_roundw
        case rel => exact ⟨i + 1, S2, rfl, by go_num, HI.out, HN.out.1, HN.out.2, hE.trans E1⟩
        case measure => simp [intOf]; omega
      · have hiL : i = L := by omega
        subst hiL
        have cB := fun W => by_any s i hs HL.out.1 HL.out.2 W
        have HR : Hid (M = byW s i) := by
          show M = byW s i
          rw [HT.out] at hS
          rw [HM.out, hS]
        clear hi g hS hs HC
        generalize byW s i = R at *
        go_wp2_with fail
        refine (cB _).mono ?_
        rintro e w1 ⟨rfl, E1⟩
        go_wp2
        go_ret
        exact ⟨ret_int (by rw [HR.out]), hE.trans E1⟩
end Go.Proofs.Ytbonaldlljdaoaa
