/-
  Lists of spans cloned and sorted (slices.Clone, slices.SortFunc), in plain words.
-/
import Derived.Test.YtgphjbkadjagpaaSpC
import Derived.Test.YtgphjbkadjagpaaShelf
namespace Go.Proofs.Ytgphjbkadjagpaa
open Go.RowKit Go.Sort
set_option maxHeartbeats 1000000

def encS (x : Sp) : List Value := [.int .i64 x.1, .int .i64 x.2]
theorem encS_len (x : Sp) : (encS x).length = 2 := rfl
theorem encS_one (x : Sp) : ∀ v ∈ encS x, v.oneCell' = true := by intro v hv; simp [encS] at hv; rcases hv with rfl | rfl <;> rfl
theorem closure_any (x y : Sp) (W : World) : Calls Try.prog 25 #[.agg #[.int .i64 x.1, .int .i64 x.2], .agg #[.int .i64 y.1, .int .i64 y.2]] W fun e w' => e = .returned (.int .i64 (Lib.compareInt x.1 y.1)) ∧ ∃ q os', w' = grow (W.drewN q) os' := by
  have hcon := fun W' => AnyG.cmp_Compare_int Try.laysCmp x.1 y.1 W'
  change ∀ W', Calls Try.prog 26 _ _ _ at hcon
  generalize Lib.compareInt x.1 y.1 = r at hcon ⊢
  go_enter Try.func25, Try.ntmps25
  go_wp2_with (go_at_call 26; refine (hcon _).mono ?_; rintro e w' ⟨rfl, rfl⟩)
  go_ret
  exact ⟨rfl, 0, _, by rw [alloc_eq_grow, alloc_eq_grow, grow_grow]; rfl⟩
theorem cmp_lays (blk off size : Nat) (w : World) : CmpLays Try.prog 25 #[] encS 2 (fun x y => Lib.compareInt x.1 y.1) blk off size w :=
  fun _ _ _ _ x y => closure_any x y _
theorem lt_from (x y : Sp) : ltOf (fun x y : Sp => Lib.compareInt x.1 y.1) x y = decide (x.1 < y.1) := by
  unfold ltOf Lib.compareInt
  by_cases h1 : x.1 < y.1
  · simp [h1]
  · by_cases h2 : y.1 < x.1 <;> simp [h1, h2]
theorem swo_from : SWO (ltOf fun x y : Sp => Lib.compareInt x.1 y.1) where
  irrefl x := by rw [lt_from]; simp
  trans x y z h1 h2 := by rw [lt_from] at *; simp at *; omega
  ntrans x y z h1 h2 := by rw [lt_from] at *; simp at *; omega

theorem list_prefix {a b : List Value} (h : ∀ (j : Nat) (u : Value), a[j]? = some u → b[j]? = some u) : b = a ++ b.drop a.length := by
  have e : b.take a.length = a := by
    apply List.ext_getElem?
    intro j
    rw [List.getElem?_take]
    split
    · rename_i hj
      rw [List.getElem?_eq_getElem hj]
      exact h j _ (List.getElem?_eq_getElem hj)
    · rename_i hj
      exact (List.getElem?_eq_none (by omega)).symm
  conv => lhs; rw [← List.take_append_drop a.length b, e]
theorem sort_heap {w : World} {g : Nat} {cur : Array Value} {T : TypeId} {fr : Nat × Nat} (hg : w.heap[g]? = some (.cells cur T fr)) (n : Nat) (d : Array Sp) (os : Array Obj) :
    (∃ cur', (sortWorldK encS 2 w g 0 n d os).heap[g]? = some (.cells cur' T fr) ∧ cur'.size = cur.size) ∧ ∀ k, k < w.heap.size → k ≠ g → (sortWorldK encS 2 w g 0 n d os).heap[k]? = w.heap[k]? := by
  have hs := blk_lt hg
  constructor
  · refine ⟨putCells id 0 (flatK encS 2 d) cur, ?_, by simp [putCells]⟩
    unfold sortWorldK grow putRowK putRow mapBlock Sort.ahead
    simp only []
    rw [Array.getElem?_append_left (by simpa using hs), Array.getElem?_modify, if_pos rfl, hg]
    rfl
  · intro k hk hne
    unfold sortWorldK grow putRowK putRow mapBlock Sort.ahead
    simp only []
    rw [Array.getElem?_append_left (by simpa using hk), Array.getElem?_modify, if_neg (Ne.symm hne)]
theorem holdsS {w : World} {base g cap n : Nat} {l : List Sp} {rst : List Value} (hB : Bk w base (.slice (some ⟨g, 0, none⟩) n cap) l rst) : HoldsK encS 2 w g 0 l.toArray := by
  rcases hB with ⟨h', _⟩ | ⟨g', cap', cur, h', hb, hg, hcm, hcs, hl⟩
  · cases h'
  · simp at h'
    obtain ⟨rfl, rfl, rfl⟩ := h'
    intro j hj
    rw [size_flatK] at hj
    simp at hj
    rw [get_flatK encS 2 _ j (by simpa using hj), Nat.zero_add]
    refine ⟨?_, frozen_of_row w g _ cur _ hg⟩
    rw [cell_of_row w g j cur _ (0, 0) hg, ← Array.getElem?_toList, hl, List.getElem?_append_left (by rw [flat_length]; omega)]
    have hk : j / 2 < l.length := by omega
    have e0 : l.toArray[j / 2]! = l[j / 2] := by rw [getElem!_pos _ _ (by simpa using hk)]; simp
    obtain ⟨k1, k2⟩ := flat_at l (j / 2) l[j / 2] (List.getElem?_eq_getElem hk)
    rw [e0]
    rcases Nat.mod_two_eq_zero_or_one j with hm | hm
    · have e : j / 2 * 2 = j := by omega
      rw [e] at k1
      rw [k1, hm]; rfl
    · have e : j / 2 * 2 + 1 = j := by omega
      rw [e] at k2
      rw [k2, hm]; rfl

/-- slices.SortFunc of spans, by where they begin. -/
theorem sort_any (w : World) (base : Nat) (v : Value) (l : List Sp) (rst : List Value) (hB : Bk w base v l rst) (hl : l.length ≤ 100000) :
    Calls Try.prog 24 #[v, .func (.func 25) #[] #[]] w fun e w' => ∃ d rst', e = .returned (.tuple #[]) ∧ d.Perm l ∧ d.Pairwise (fun s t => s.1 ≤ t.1) ∧ Bk w' base v d rst' ∧ ∀ w0 : World, w0.heap.size ≤ base → Ext w0 w → Ext w0 w' := by
  have hB0 := hB
  rcases hB with ⟨rfl, rfl, rfl⟩ | ⟨g, cap, cur, rfl, hb, hg, hcm, hcs, hl2⟩
  · refine (AnyF.slices_SortFunc_none Try.laysSort none 0 _ w).mono ?_
    rintro e w' ⟨rfl, rfl⟩
    exact ⟨[], [], rfl, List.Perm.refl _, List.Pairwise.nil, hB0, fun _ _ h => h⟩
  · have eg : ∀ args w, (callFunc 25 args).run Try.prog w = .ok (.enter 25 args) w := enters_of Try.func25 (by kernel_rfl) rfl
    have hH := holdsS hB0
    have hcon := AnyQ.slices_SortFunc Try.laysSort 2 Try.isAgg28 Try.sizeOf28 encS encS_len encS_one (fun x y => Lib.compareInt x.1 y.1) swo_from 25 #[] g 0 cap l.toArray w eg (cmp_lays g 0 _ w) hH (blk_lt hg) (by simp; omega)
    have es : l.toArray.size = l.length := by simp
    rw [es] at hcon
    refine hcon.mono ?_
    rintro e w' ⟨rfl, d, n, os, hp, hs, hw⟩
    have hsz : d.size = l.length := by rw [hp.1]; simp
    have hperm : d.toList.Perm l := by
      have := hp.2.2
      rw [← hsz] at this
      have e1 : d.extract 0 d.size = d := by simp
      have e2 : l.toArray.extract 0 d.size = l.toArray := by rw [hsz, ← es]; simp
      rw [e1, e2] at this
      simpa using this
    refine ⟨d.toList, ?_⟩
    obtain ⟨⟨cur', k1, k2⟩, k3⟩ := sort_heap hg n d os
    have hK := SWK.holds (w0 := w) ⟨n, os, rfl⟩ (blk_lt hg) hH (dk := d) (by simp [hsz]) (W := sortWorldK encS 2 w g 0 n d os)
    rw [← hw] at k1 k3 hK
    refine ⟨cur'.toList.drop (flat d.toList).length, rfl, hperm, ?_, .inr ⟨g, cap, cur', by simp [hsz], hb, k1, hcm, by omega, list_prefix ?_⟩, ?_⟩
    · rw [List.pairwise_iff_getElem]
      intro i j hi hj hij
      have := hs i j (Nat.zero_le _) hij (by simpa [hsz] using hj)
      rw [lt_from] at this
      simp at hi hj
      rw [getElem!_pos d i hi, getElem!_pos d j hj] at this
      simpa using this
    · intro j u hu
      obtain ⟨s, hs1, rfl⟩ := flat_get _ j u hu
      have hlt : j / 2 < d.size := by simpa using (List.getElem?_eq_some_iff.mp hs1).1
      have hd : d[j / 2]! = s := by rw [getElem!_pos d _ hlt]; rw [Array.getElem?_toList, Array.getElem?_eq_getElem hlt] at hs1; exact Option.some.inj hs1
      have hc := HoldsK.cells hK encS_len hlt (j % 2) (.int .i64 (if j % 2 = 0 then s.1 else s.2)) (by
        rw [hd]
        rcases Nat.mod_two_eq_zero_or_one j with hm | hm <;> rw [hm] <;> rfl)
      rw [Addr.add_lit] at hc
      have e : 0 + j / 2 * 2 + j % 2 = j := by omega
      rw [e, cell_of_row w' g j cur' _ (0, 0) k1] at hc
      rw [Array.getElem?_toList]; exact hc
    · intro w0 h1 h2
      have hsz2 : w.heap.size ≤ w'.heap.size := by rw [hw]; simp [sortWorldK, grow, putRowK, putRow, mapBlock, Sort.ahead]
      refine ⟨?_, ?_, ?_, Nat.le_trans h2.size hsz2, fun k hk => (k3 k (Nat.lt_of_lt_of_le hk h2.size) (by omega)).trans (h2.block k hk)⟩
      · rw [hw]; exact h2.os
      · rw [hw]; exact h2.tape
      · rw [hw]; exact h2.output

/-- slices.Clone of spans. -/
theorem clone_any (w : World) (v : Value) (l : List Sp) (h : Rd w v l) (hl : l.length ≤ 100000) :
    Calls Try.prog 23 #[v] w fun e w' => ∃ v', e = .returned v' ∧ Ow w' w.heap.size v' l ∧ Ext w w' := by
  rcases h with ⟨rfl, rfl⟩ | ⟨b, off, c, rfl, h1, h2, h3⟩
  · refine (AnyE.slices_Clone_nil Try.laysClone 0 0 w).mono ?_
    rintro e w' ⟨rfl, rfl⟩
    exact ⟨_, rfl, ⟨[], .inl ⟨rfl, rfl, rfl⟩⟩, Ext.refl _⟩
  · obtain ⟨i, hi, hz, hs, hb⟩ := info_sp
    have hR : Rd w (.slice (some ⟨b, off, none⟩) l.length c) l := .inr ⟨b, off, c, rfl, h1, h2, h3⟩
    refine (AnyE.slices_Clone Try.laysClone i _ 2 16 hi hz hs hb rfl (by decide) Try.sizeOf28 b off l.length c (flat l) w (flat_length l) (by unfold maxLen; omega) (by omega) (fun j u hu => ?_) (flat_one l)).mono ?_
    · have := hR.news.2 j u hu
      rwa [Addr.add_lit] at this
    · rintro e w' ⟨v', rfl, k1, _, k3⟩
      exact ⟨v', rfl, Ow.of k1 rfl rfl, k3⟩
end Go.Proofs.Ytgphjbkadjagpaa
