/-
  What the laws of layer 5 share: lives; how arguments are opened.
-/
import Derived.Test.YtgphjbkadjagpaaSpJ
import Derived.Test.YtgphjbkadjagpaaRows
import Derived.ProofKit
import Derived.OpenShut
import Derived.ChangeOld
import Derived.Deep.SlicePairs
namespace Go.Proofs.Ytgphjbkadjagpaa
open Go.RowKit Go.ChangeShapes Go.WideShapes Go.ChangeAt
set_option maxHeartbeats 1000000

theorem rd_open {H : Type} {enc : TypeId × Value → H} {W : World} {base : Nat} {held : Bool} {fuel : Nat} {a : Option Addr} {n c : Nat} {x : DataW H × List MemPlace}
    (h : DataW.trod enc Try.prog W base (fun _ => true) held fuel 22 (Value.slice a n c).cells.toList = some x) : ∃ l, Ra W (.slice a n c) l ∧ AllI l ∧ l.length ≤ 9223372036854775807 := by
  rcases Go.Deep.open_slice_pairs Try.underlying22 Try.underlying28 (by kernel_rfl) rfl rfl (by kernel_rfl) (by kernel_rfl) h with ⟨hcs, _⟩ | ⟨ad, len, cap, m, k, V0, V1, D0, D1, P0, P1, hcs, _, hl, hm, hmm, _, hall⟩
  · simp [Value.cells] at hcs
    obtain ⟨rfl, rfl, rfl⟩ := hcs
    exact ⟨[], .inl (Rd.nil W), by intro s hs; simp at hs, by simp⟩
  · simp [Value.cells] at hcs
    obtain ⟨rfl, rfl, rfl⟩ := hcs
    have hmc : m = c := by simpa using hmm
    subst hmc
    have hex : ∀ i, i < m → ∃ p : Int × Int, W.cell? (ad.add (i * 2)) = some (.int .i64 p.1) ∧ W.cell? (ad.add (i * 2 + 1)) = some (.int .i64 p.2) ∧ I64 p.1 ∧ I64 p.2 := by
      intro i hi
      obtain ⟨h1, h2, h3, h4⟩ := hall i hi
      obtain ⟨x0, e0, hx0, wx0⟩ := DataW.trod_int Try.underlying3 h3
      obtain ⟨x1, e1, hx1, wx1⟩ := DataW.trod_int Try.underlying3 h4
      simp at e0 e1
      rw [e0] at h1
      rw [e1] at h2
      exact ⟨(x0, x1), h1, h2, i64_of_wf wx0, i64_of_wf wx1⟩
    by_cases hc0 : m = 0
    · have h0 : n = 0 := by omega
      subst h0 hc0
      exact ⟨[], .inr ⟨rfl, ad, rfl⟩, by intro s hs; simp at hs, by simp⟩
    · obtain ⟨b, off, spot⟩ := ad
      obtain ⟨p0, q1, _⟩ := hex 0 (by omega)
      have hspot : spot = none := by simpa [Addr.add] using World.cell?_spot q1
      subst hspot
      have hb : b < W.heap.size := by
        have := World.block_lt_of_cell? W _ q1
        simpa [Addr.add] using this
      let g : Nat → Sp := fun i => if h : i < m then (hex i h).choose else (0, 0)
      have hg : ∀ i, i < m → W.cell? ⟨b, off + i * 2, none⟩ = some (.int .i64 (g i).1) ∧ W.cell? ⟨b, off + i * 2 + 1, none⟩ = some (.int .i64 (g i).2) ∧ I64 (g i).1 ∧ I64 (g i).2 := by
        intro i hi
        have e : g i = (hex i hi).choose := by show (if h : i < m then (hex i h).choose else (0, 0)) = _; rw [dif_pos hi]
        have := (hex i hi).choose_spec
        rw [← e, Addr.add_lit, Addr.add_lit] at this
        exact this
      have hget : ∀ i s, ((List.range n).map g)[i]? = some s → i < n ∧ s = g i := by
        intro i s hs
        rw [List.getElem?_map] at hs
        by_cases hi : i < n
        · rw [List.getElem?_range hi] at hs
          exact ⟨hi, (Option.some.inj hs).symm⟩
        · rw [List.getElem?_eq_none (by simpa using hi)] at hs
          cases hs
      refine ⟨(List.range n).map g, .inl (.inr ⟨b, off, m, by simp, by simpa using hl, hb, fun i s hs => ?_⟩), fun s hs => ?_, by simp; unfold maxLen at hm; omega⟩
      · obtain ⟨hi, rfl⟩ := hget i s hs
        have := hg i (by omega)
        exact ⟨this.1, this.2.1⟩
      · simp at hs
        obtain ⟨i, hi, rfl⟩ := hs
        have := hg i (by omega)
        exact this.2.2
theorem own5 : ownKnob Try.prog.godebug = none := by kernel_rfl
theorem laidOut5 : laidOutB Try.prog = true := by kernel_rfl

theorem rd_lit2 (W : World) (a b c d : Int) : Rd (W.alloc (.cells #[.int .i64 a, .int .i64 b, .int .i64 c, .int .i64 d] 28)) (.slice (some ⟨W.heap.size, 0, none⟩) 2 2) [(a, b), (c, d)] := by
  refine .inr ⟨W.heap.size, 0, 2, rfl, Nat.le_refl _, by simp, fun i s hs => ?_⟩
  match i with
  | 0 => simp at hs; subst hs; constructor <;> simp [go_sem]
  | 1 => simp at hs; subst hs; constructor <;> simp [go_sem]
  | i + 2 => simp at hs
theorem i64_small {n : Int} (h1 : -1000 ≤ n) (h2 : n ≤ 1000) : I64 n := ⟨by omega, by omega⟩
theorem lives_plain {r : List Sp} (h : Plain r) (hh : ∀ n, hasB r n = hasB [(3, 5), (1, 3)] n) : r = [(1, 5)] := by
  refine plain_one h (plain_cons.mpr ⟨by simp, by simp, plain_nil⟩) fun n => ?_
  rw [hh]
  apply bool_ext
  simp [hasB, inB]
  omega
theorem lives_any (w : World) : Calls Try.prog 12 #[] w fun e w' => e = .returned (.bool true) ∧ Ext w w' := by
  go_enter Try.func12, Try.ntmps12
  go_wp2_with fail
  refine (norm_any _ _ [(3, 5), (1, 3)] (rd_lit2 w 3 5 1 3) (by simp) (by intro s hs; simp at hs; rcases hs with rfl | rfl <;> exact ⟨i64_small (by simp) (by simp), i64_small (by simp) (by simp)⟩)).mono ?_
  rintro e w1 ⟨v1, r, rfl, k1, k2, k3, k4, k5, k6⟩
  have hr := lives_plain k2 k3
  subst hr
  have HE : Hid (Ext w w1) := ((Ext.refl w).alloc _).trans k6
  have HR : Hid (Rd w1 v1 [(1, 5)]) := k1.rd
  clear k1 k2 k3 k4 k5 k6
  go_wp2_with fail
  refine (same_any _ _ _ [(1, 5)] [(1, 5)] (HR.out.ext ((Ext.refl _).alloc _)) (rd_one w1 1 5) (by simp) (by simp)).mono ?_
  rintro e w2 ⟨rfl, E2⟩
  have HE2 : Hid (Ext w w2) := (HE.out.alloc _).trans E2
  have e1 : decide ([((1 : Int), (5 : Int))] = [(1, 5)]) = true := by simp
  rw [e1]
  clear E2 e1
  go_wp2_with fail
  refine (has_any _ _ [(1, 5)] 4 (rd_one w2 1 5) (by simp)).mono ?_
  rintro e w3 ⟨rfl, E3⟩
  have HE3 : Hid (Ext w w3) := (HE2.out.alloc _).trans E3
  have e1 : hasB [(1, 5)] 4 = true := by decide
  rw [e1]
  clear E3 e1
  go_wp2
  go_ret
  exact ⟨rfl, HE3.out⟩
end Go.Proofs.Ytgphjbkadjagpaa
