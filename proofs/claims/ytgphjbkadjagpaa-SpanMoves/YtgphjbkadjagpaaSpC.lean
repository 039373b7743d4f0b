/-
  A span laid behind a plain list (package span's laid).
-/
import Derived.Test.YtgphjbkadjagpaaSpB
namespace Go.Proofs.Ytgphjbkadjagpaa
open Go.RowKit
set_option maxHeartbeats 1000000

theorem Bk.grow {w : World} {base : Nat} {g cap : Nat} {q : List Sp} {t : Sp} {rst : List Value} (h : Bk w base (.slice (some ⟨g, 0, none⟩) (q.length + 1) cap) (q ++ [t]) rst) (x : Int) :
    Bk (w.setCell ⟨g, q.length * 2 + 1, none⟩ (.int .i64 x)) base (.slice (some ⟨g, 0, none⟩) (q.length + 1) cap) (q ++ [(t.1, x)]) rst ∧ w.grownBy (w.setCell ⟨g, q.length * 2 + 1, none⟩ (.int .i64 x)) (some g) := by
  rcases h with ⟨h', _⟩ | ⟨g', cap', cur, h', hb, hg, hcm, hcs, hl⟩
  · simp at h'
  · simp at h'
    obtain ⟨rfl, rfl⟩ := h'
    refine ⟨.inr ⟨g, cap, cur.setIfInBounds (q.length * 2 + 1) (.int .i64 x), by simp, hb, heap_setCell_same w g _ cur _ _ hg, hcm, by simpa using hcs, ?_⟩,
      ⟨rfl, rfl, rfl, by simp, fun k _ hk => heap_setCell_other w ⟨g, _, none⟩ k _ (fun e => hk (by simp [e]))⟩⟩
    rw [Array.toList_setIfInBounds, hl, flat_append, flat_append, List.append_assoc, List.append_assoc, List.set_append]
    rw [if_neg (by rw [flat_length]; omega), flat_length]
    have e : q.length * 2 + 1 - q.length * 2 = 1 := by omega
    rw [e]
    rfl
theorem Bk.top {w : World} {base : Nat} {p : Option Addr} {c n : Nat} {q : List Sp} {t : Sp} {rst : List Value} (h : Bk w base (.slice p n c) (q ++ [t]) rst) :
    ∃ g, p = some ⟨g, 0, none⟩ ∧ n = q.length + 1 ∧ base ≤ g ∧ g < w.heap.size ∧ w.cell? ⟨g, q.length * 2 + 1, none⟩ = some (.int .i64 t.2) ∧ w.frozen? ⟨g, q.length * 2 + 1, none⟩ = false := by
  have hr := h.rd
  rcases h with ⟨h', h2, _⟩ | ⟨g', cap', cur, h', hb, hg, hcm, hcs, hl⟩
  · simp at h2
  · simp at h'
    obtain ⟨rfl, rfl, rfl⟩ := h'
    rcases hr with ⟨h', _⟩ | ⟨b, off, c', h', _, _, hc⟩
    · cases h'
    · simp at h'
      obtain ⟨⟨rfl, rfl⟩, rfl⟩ := h'
      have := (hc q.length t (by simp)).2
      rw [Nat.zero_add] at this
      exact ⟨g', rfl, rfl, hb, blk_lt hg, this, frozen_of_row w g' _ cur _ hg⟩
theorem rd_one (W : World) (s1 s2 : Int) : Rd (W.alloc (.cells #[.int .i64 s1, .int .i64 s2] 28)) (.slice (some ⟨W.heap.size, 0, none⟩) 1 1) [(s1, s2)] := by
  refine .inr ⟨W.heap.size, 0, 1, rfl, Nat.le_refl _, by simp, fun i s hs => ?_⟩
  cases i with
  | zero => simp at hs; subst hs; constructor <;> simp [go_sem]
  | succ i => simp at hs

theorem far_of {w W W' : World} {nq : Nat} {ob : Obj} {v : Value} (hW : Ext w W) (hg : ((W.drewN nq).alloc ob).grownBy W' v.ownBlock) : ∀ b o, b < w.heap.size → v.ownBlock ≠ some b → W'.cell? ⟨b, o, none⟩ = w.cell? ⟨b, o, none⟩ := by
  intro b o hb hne
  have e1 : Ext w ((W.drewN nq).alloc ob) := (hW.drewN nq).alloc ob
  exact (hg.cell_far ⟨b, o, none⟩ (Nat.lt_of_lt_of_le hb e1.size) (fun e => hne e.symm)).trans (e1.cell.1 b o hb)
/-- What laid leaves: the list, owned; in the same block, if there was room. -/
def LaidQ (w0 w : World) (v : Value) (l : List Sp) (rst : List Value) (s : Sp) (e : Ending) (w' : World) : Prop :=
  ∃ v' rst', e = .returned v' ∧ Bk w' w0.heap.size v' (lay l s) rst' ∧ Ext w0 w' ∧
    (2 ≤ rst.length → (∃ p n1 n2 cap, v = .slice p n1 cap ∧ v' = .slice p n2 cap) ∧ rst' = rst.drop (((lay l s).length - l.length) * 2)) ∧ ∀ b o, b < w.heap.size → v.ownBlock ≠ some b → w'.cell? ⟨b, o, none⟩ = w.cell? ⟨b, o, none⟩
set_option maxRecDepth 100000 in
theorem laid_any (w0 w : World) (v : Value) (l : List Sp) (rst : List Value) (s1 s2 : Int) (hB : Bk w w0.heap.size v l rst) (hE : Ext w0 w) (hl : l.length ≤ 10000) :
    Calls Try.prog 21 #[v, .agg #[.int .i64 s1, .int .i64 s2]] w (LaidQ w0 w v l rst (s1, s2)) := by
  obtain ⟨p, c, rfl⟩ := hB.rd.form
  have HB : Hid (Bk w w0.heap.size (.slice p l.length c) l rst) := hB
  have HE : Hid (Ext w0 w) := hE
  have HL : Hid (l.length ≤ 10000) := hl
  clear hB hE hl
  go_enter Try.func21, Try.ntmps21
  by_cases h0 : s2 ≤ s1
  · go_wp2
    go_ret
    unfold LaidQ
    refine ⟨_, rst, rfl, ?_, HE.out.alloc _, fun _ => ⟨⟨_, _, _, _, rfl, rfl⟩, ?_⟩, fun b o hb _ => ((Ext.refl w).alloc _).cell.1 b o hb⟩
    · rw [lay_empty h0]; exact HB.out.ext ((Ext.refl _).alloc _)
    · rw [lay_empty h0]; simp
  · have H0 : Hid (s1 < s2) := by show s1 < s2; omega
    rcases snoc_cases l with rfl | ⟨q, t, rfl⟩
    · have e1 : wrap64 (0 - 1) = -1 := by unfold wrap64; omega
      go_upto_region 4 with fail
      have b0 : (w.alloc (.cells #[.int .i64 s1, .int .i64 s2] 28)).cell? ⟨w.heap.size, 0, none⟩ = some (.int .i64 s1) := by simp [go_sem]
      have b1 : (w.alloc (.cells #[.int .i64 s1, .int .i64 s2] 28)).cell? ⟨w.heap.size, 1, none⟩ = some (.int .i64 s2) := by simp [go_sem]
      have HW : Hid (Ext w (w.alloc (.cells #[.int .i64 s1, .int .i64 s2] 28))) := (Ext.refl _).alloc _
      generalize w.alloc (.cells #[.int .i64 s1, .int .i64 s2] 28) = W at *
      go_quiet (fail)
      go_wp2_with (at_builtin; refine bk_append _ w0 _ _ _ _ _ _ _ [] [(s1, s2)] rst rfl rfl (by rfl) (by rfl) (HB.out.ext ((HW.out.drewN _).alloc _)) (rd_one _ _ _) (by simp) ((HE.out.trans (HW.out.drewN _)).alloc _) ?_; intro v' rst' W' k1 k2 k3 k4)
      go_wp2
      go_ret
      unfold LaidQ
      rw [lay_first (s := (s1, s2)) (by have := H0.out; show ¬ s2 ≤ s1; omega)]
      exact ⟨v', rst', rfl, k1, k3, fun k => ⟨(k2 (by simp) (by simpa using k)).2.1, (k2 (by simp) (by simpa using k)).2.2⟩, far_of HW.out k4⟩
    · have e0 : (q ++ [t]).length = q.length + 1 := by simp
      rw [e0] at HB ⊢
      obtain ⟨g, rfl, _, hb, hg, hc, hf⟩ := HB.out.top
      have HM : Hid (q.length + 1 ≤ 10000) := by have := HL.out; rw [e0] at this; exact this
      clear HL e0
      generalize hk : q.length = k at *
      have HK : Hid (q.length = k) := hk
      clear hk
      have e1 : wrap64 (((k + 1 : Nat) : Int) - 1) = (k : Int) := by have := HM.out; unfold wrap64; omega
      have e2 : wrap64 ((k : Int) + 1 - 1) = (k : Int) := by have := HM.out; unfold wrap64; omega
      have e5 : wrap64 (k : Int) = (k : Int) := by have := HM.out; unfold wrap64; omega
      have e3 : (0 : Int) ≤ (k : Int) := by omega
      have e4 : (k : Int) < (k : Int) + 1 := by omega
      go_upto_region 4 with fail
      have b0 : (w.alloc (.cells #[.int .i64 s1, .int .i64 s2] 28)).cell? ⟨w.heap.size, 0, none⟩ = some (.int .i64 s1) := by simp [go_sem]
      have b1 : (w.alloc (.cells #[.int .i64 s1, .int .i64 s2] 28)).cell? ⟨w.heap.size, 1, none⟩ = some (.int .i64 s2) := by simp [go_sem]
      have HW : Hid (Ext w (w.alloc (.cells #[.int .i64 s1, .int .i64 s2] 28))) := (Ext.refl _).alloc _
      have c0 := (HW.out.cell.1 g _ hg).trans hc
      have f0 := (HW.out.cell.2 g _ hg).trans hf
      generalize w.alloc (.cells #[.int .i64 s1, .int .i64 s2] 28) = W at *
      clear hc hf
      by_cases h2 : s1 ≤ t.2
      · have H2 : Hid (s1 ≤ t.2) := h2
        have h2b : decide (s1 ≤ t.2) = true := by simp [h2]
        go_quiet (fail)
        go_upto_region 5 with fail
        have HW2 : Hid (Ext w (W.drewN nq)) := HW.out.drewN _
        replace c0 : (W.drewN nq).cell? ⟨g, k * 2 + 1, none⟩ = some (.int .i64 t.2) := c0
        replace f0 : (W.drewN nq).frozen? ⟨g, k * 2 + 1, none⟩ = false := f0
        replace b0 : (W.drewN nq).cell? ⟨w.heap.size, 0, none⟩ = some (.int .i64 s1) := b0
        replace b1 : (W.drewN nq).cell? ⟨w.heap.size, 1, none⟩ = some (.int .i64 s2) := b1
        generalize W.drewN nq = W2 at *
        go_region_with fail
        all_goals
          go_wp2
          go_ret
          unfold LaidQ
          rw [lay_grow (s := (s1, s2)) (by have := H0.out; show ¬ s2 ≤ s1; omega) H2.out]
          have k0 := HK.out
          have k1 := HB.out.ext HW2.out
          subst k0
          have k2 := k1.grow (max t.2 s2)
          refine ⟨_, rst, rfl, k2.1.ext (Ext.refl _).drew, (ext_grown k1 (Nat.le_refl _) (HE.out.trans HW2.out) k2.2).drew, fun _ => ⟨⟨_, _, _, _, rfl, rfl⟩, ?_⟩, fun b o hb hne => (k2.2.cell_far ⟨b, o, none⟩ (Nat.lt_of_lt_of_le hb HW2.out.size) (fun e => hne e.symm)).trans (HW2.out.cell.1 b o hb)⟩
          simp
      · have H2 : Hid (t.2 < s1) := by show t.2 < s1; omega
        have h2b : decide (s1 ≤ t.2) = false := by simp [h2]
        go_quiet (fail)
        go_wp2_with (at_builtin; refine bk_append _ w0 _ _ _ _ _ _ _ (q ++ [t]) [(s1, s2)] rst rfl rfl (by rfl) (by rfl) (HB.out.ext ((HW.out.drewN _).alloc _)) (rd_one _ _ _) (by have := HM.out; have := HK.out; simp; omega) ((HE.out.trans (HW.out.drewN _)).alloc _) ?_; intro v' rst' W' k1 k2 k3 k4)
        go_wp2
        go_ret
        unfold LaidQ
        rw [lay_more (s := (s1, s2)) (by have := H0.out; show ¬ s2 ≤ s1; omega) (by have := H2.out; show ¬ s1 ≤ t.2; omega)]
        refine ⟨v', rst', rfl, k1, k3, fun k => ⟨(k2 (by simp) (by simpa using k)).2.1, ?_⟩, far_of HW.out k4⟩
        rw [(k2 (by simp) (by simpa using k)).2.2]
        simp
end Go.Proofs.Ytgphjbkadjagpaa
