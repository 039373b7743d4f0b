/-
  The document's Show: calls, and every tree.
-/
import Derived.Test.YtdjniiginnlmhaaGreatDoorQ24
namespace Go.Proofs.YtdjniiginnlmhaaGreatDoor
open Go.RowKit
set_option maxHeartbeats 6000000

theorem sum_take_le2 (f : T → Nat) (ls : List T) (j : Nat) (x : T) (h : ls[j]? = some x) : ((ls.take j).map f).sum + f x ≤ (ls.map f).sum := by
  have e : ls = ls.take j ++ x :: ls.drop (j + 1) := by
    obtain ⟨hj, hx⟩ := List.getElem?_eq_some_iff.1 h
    rw [← hx, ← List.drop_eq_getElem_cons hj, List.take_append_drop]
  have : (ls.map f).sum = ((ls.take j).map f).sum + (f x + ((ls.drop (j + 1)).map f).sum) := by
    conv => lhs; rw [e]
    simp
  omega
set_option maxRecDepth 100000 in
theorem show_call (n : Nat) (t : T) (hk : t.k = 8) (_hW : Wf t) (hl : t.l.length ≤ 100000) (hx : ∀ x ∈ t.l, ShC n x) (hlen : t.s.length + (t.l.map (fun x => (shT n x).length + 1)).sum + 10 ≤ 80000000) : ShC (n + 1) t := by
  intro W P pp ln cl hL
  have e0 : (t.k == 0) = false := by rw [hk]; rfl
  have e1 : (t.k == 1) = false := by rw [hk]; rfl
  have e2 : (t.k == 2) = false := by rw [hk]; rfl
  have e3 : (t.k == 3) = false := by rw [hk]; rfl
  have e4 : (t.k == 4) = false := by rw [hk]; rfl
  have e5 : (t.k == 5) = false := by rw [hk]; rfl
  have e6 : (t.k == 6) = false := by rw [hk]; rfl
  have e7 : (t.k == 7) = false := by rw [hk]; rfl
  have HX : Hid (shT (n + 1) t = t.s ++ 40 :: (joinL (t.l.map (shT n)) ++ [41])) := by show _ = _; rw [shT]; simp [hk]
  have hln : ln = t.l.length := by
    obtain ⟨p, c, h1, _⟩ := hL.form
    cases h1; rfl
  have hl2 : ln ≤ 100000 := by omega
  have HI : Hid (IsL W P (.slice pp ln cl) t.l) := hL
  have HLN : Hid (ln = t.l.length) := hln
  have HXX : Hid (∀ x ∈ t.l, ShC n x) := hx
  have HZ : Hid (t.s.length + (t.l.map (fun x => (shT n x).length + 1)).sum + 10 ≤ 80000000) := hlen
  have HQt : Hid ((bs t.s).data.toList = t.s) := rfl
  have hqs : (bs t.s).size ≤ 80000000 := by rw [bs_size]; omega
  have s1 : (⟨#[40]⟩ : ByteArray).size = 1 := rfl
  have s2 : (⟨#[41]⟩ : ByteArray).size = 1 := rfl
  have s3 : (⟨#[44]⟩ : ByteArray).size = 1 := rfl
  clear hL hk hl hx hlen hln
  go_enter Tryz.func13, Tryz.ntmps13
  go_wp2_with fail
  go_loopw [8, 9] (fun qv iv wr => ∃ (j : Nat) (q : ByteArray), j ≤ ln ∧ qv = .string q ∧ iv = .int .i64 (j : Int) ∧ q.data.toList = t.s ++ 40 :: joinL ((t.l.take j).map (shT n)) ∧ BlkX wr W.heap.size t (.slice pp ln cl) ∧ Ext W wr) (fun _ iv _ => ln - (intOf iv).toNat)
  case atStart => exact ⟨0, _, Nat.zero_le _, rfl, rfl, by rw [app_list, HQt.out]; simp [joinL], blk13_top rfl (Ext.refl _), (Ext.refl _).alloc _⟩
  case round =>
    obtain ⟨j, q, hj, rfl, rfl, hq, hB, hE⟩ := hrel
    have HE : Hid (Ext W wr ∧ BlkX wr W.heap.size t (.slice pp ln cl)) := ⟨hE, hB⟩
    have HQ : Hid (q.data.toList = t.s ++ 40 :: joinL ((t.l.take j).map (shT n))) := hq
    have HLJ : Hid (q.size ≤ t.s.length + 1 + ((t.l.take j).map (fun x => (shT n x).length + 1)).sum) := by
      show _ ≤ _
      rw [← size_list, hq]
      have := joinL_len ((t.l.take j).map (shT n))
      rw [List.map_map] at this
      simp only [List.length_append, List.length_cons]
      have e : (List.map ((fun l => l.length + 1) ∘ shT n) (t.l.take j)).sum = ((t.l.take j).map (fun x => (shT n x).length + 1)).sum := rfl
      omega
    obtain ⟨qz, ⟨k0, k1, k2, k3, k4, k5, k6, k7, k8, k9, k10, k11, k12⟩, gz⟩ := hB
    clear hq hE gz
    by_cases hlt : j < ln
    · have hltI : (j : Int) < (ln : Int) := by omega
      have hI := HI.out.ext HE.out.1
      obtain ⟨gb, off, x, lv, hpp, hx1, hA1, hgb, hA2, hLx, hce⟩ := hI.at (i := j) (by rw [← HLN.out]; exact hlt)
      clear hA1 hA2
      subst hpp
      obtain ⟨pp, cl', hlv, hcl⟩ := hLx.form
      obtain ⟨ln', hln'⟩ : ∃ ln', x.l.length = ln' := ⟨_, rfl⟩
      rw [hln'] at hlv
      subst hlv
      have HX1 : Hid (t.l[j]? = some x) := hx1
      have HC : Hid (∀ V, Ext wr V → Calls Tryz.prog 13 #[.agg #[.int .i64 x.k, .int .i64 x.n, .string (bs x.s), .int .i64 x.e, .int .i64 x.r.1, .int .i64 x.r.2.1, .bool x.r.2.2.1, .bool x.r.2.2.2, .int .i64 x.q.1, .int .i64 x.q.2.1, .bool x.q.2.2.1, .bool x.q.2.2.2, .slice pp ln' cl']] V fun e w' => e = .returned (.string (bs (shT n x))) ∧ Ext V w') := fun V e => HXX.out x (List.mem_of_getElem? hx1) V P pp ln' cl' (hLx.ext e)
      have hsz : q.size + (shT n x).length + 1 ≤ t.s.length + 1 + (t.l.map (fun x => (shT n x).length + 1)).sum := by
        have h1 := HLJ.out
        have h2 := sum_take_le2 (fun x => (shT n x).length + 1) t.l j x hx1
        omega
      have hsz2 : q.size + (shT n x).length + 1 ≤ 80000000 := by have := HZ.out; omega
      have HQx : Hid ((bs (shT n x)).data.toList = shT n x) := rfl
      have hqx : q.size + (bs (shT n x)).size + 1 ≤ 80000000 := by rw [bs_size]; exact hsz2
      clear hsz hsz2
      generalize bs (shT n x) = qx at *
      have c0 : wr.cell? ⟨gb, off + j * 13, none⟩ = some (.int .i64 x.k) := hce 0 _ rfl
      have c1 : wr.cell? ⟨gb, off + j * 13 + 1, none⟩ = some (.int .i64 x.n) := hce 1 _ rfl
      have c2 : wr.cell? ⟨gb, off + j * 13 + 2, none⟩ = some (.string (bs x.s)) := hce 2 _ rfl
      have c3 : wr.cell? ⟨gb, off + j * 13 + 3, none⟩ = some (.int .i64 x.e) := hce 3 _ rfl
      have c4 : wr.cell? ⟨gb, off + j * 13 + 4, none⟩ = some (.int .i64 x.r.1) := hce 4 _ rfl
      have c5 : wr.cell? ⟨gb, off + j * 13 + 5, none⟩ = some (.int .i64 x.r.2.1) := hce 5 _ rfl
      have c6 : wr.cell? ⟨gb, off + j * 13 + 6, none⟩ = some (.bool x.r.2.2.1) := hce 6 _ rfl
      have c7 : wr.cell? ⟨gb, off + j * 13 + 7, none⟩ = some (.bool x.r.2.2.2) := hce 7 _ rfl
      have c8 : wr.cell? ⟨gb, off + j * 13 + 8, none⟩ = some (.int .i64 x.q.1) := hce 8 _ rfl
      have c9 : wr.cell? ⟨gb, off + j * 13 + 9, none⟩ = some (.int .i64 x.q.2.1) := hce 9 _ rfl
      have c10 : wr.cell? ⟨gb, off + j * 13 + 10, none⟩ = some (.bool x.q.2.2.1) := hce 10 _ rfl
      have c11 : wr.cell? ⟨gb, off + j * 13 + 11, none⟩ = some (.bool x.q.2.2.2) := hce 11 _ rfl
      have c12 : wr.cell? ⟨gb, off + j * 13 + 12, none⟩ = some (.slice pp ln' cl') := hce 12 _ rfl
      clear hI hx1 hLx hce hcl hln'
      by_cases h0 : j = 0
      · have i0 : ¬ 0 < (j : Int) := by omega
        have HJ : Hid (joinL ((t.l.take j).map (shT n) ++ [shT n x]) = joinL ((t.l.take j).map (shT n)) ++ shT n x) := by show _ = _; rw [h0]; simp [joinL]
        clear h0
        go_wp2_with fail
        refine (HC.out _ (Ext.refl _)).mono ?_
        rintro e w1 ⟨rfl, E1⟩
        have HE1 : Hid (Ext W w1 ∧ BlkX w1 W.heap.size t (.slice (some ⟨gb, off, none⟩) ln cl)) := ⟨HE.out.1.trans E1, HE.out.2.ext E1⟩
        clear E1 k0 k1 k2 k3 k4 k5 k6 k7 k8 k9 k10 k11 k12 c0 c1 c2 c3 c4 c5 c6 c7 c8 c9 c10 c11 c12
        go_wp2_with fail
        go_roundw
        case rel =>
          refine ⟨j + 1, _, by omega, rfl, by go_num, ?_, HE1.out.2, HE1.out.1⟩
          rw [List.take_add_one, HX1.out]
          show _ = t.s ++ 40 :: joinL ((t.l.take j ++ [x]).map (shT n))
          rw [List.map_append]
          show _ = t.s ++ 40 :: joinL ((t.l.take j).map (shT n) ++ [shT n x])
          rw [HJ.out]
          simp only [app_list, HQ.out, HQx.out]
          simp
        case measure => show ln - ((j : Int) + 1).toNat < ln - ((j : Int)).toNat; omega
      · have i0 : 0 < (j : Int) := by omega
        have HJ : Hid (joinL ((t.l.take j).map (shT n) ++ [shT n x]) = joinL ((t.l.take j).map (shT n)) ++ 44 :: shT n x) := by
          refine joinL_snoc _ _ ?_
          intro h
          have h2 := congrArg List.length h
          rw [List.length_map, List.length_take] at h2
          have := HLN.out
          simp only [List.length_nil] at h2
          omega
        have s4 : (q ++ (⟨#[44]⟩ : ByteArray)).size = q.size + 1 := by rw [ByteArray.size_append, s3]
        clear h0
        go_wp2_with fail
        refine (HC.out _ (Ext.refl _)).mono ?_
        rintro e w1 ⟨rfl, E1⟩
        have HE1 : Hid (Ext W w1 ∧ BlkX w1 W.heap.size t (.slice (some ⟨gb, off, none⟩) ln cl)) := ⟨HE.out.1.trans E1, HE.out.2.ext E1⟩
        clear E1 k0 k1 k2 k3 k4 k5 k6 k7 k8 k9 k10 k11 k12 c0 c1 c2 c3 c4 c5 c6 c7 c8 c9 c10 c11 c12
        go_wp2_with fail
        go_roundw
        case rel =>
          refine ⟨j + 1, _, by omega, rfl, by go_num, ?_, HE1.out.2, HE1.out.1⟩
          rw [List.take_add_one, HX1.out]
          show _ = t.s ++ 40 :: joinL ((t.l.take j ++ [x]).map (shT n))
          rw [List.map_append]
          show _ = t.s ++ 40 :: joinL ((t.l.take j).map (shT n) ++ [shT n x])
          rw [HJ.out]
          simp only [app_list, HQ.out, HQx.out]
          simp
        case measure => show ln - ((j : Int) + 1).toNat < ln - ((j : Int)).toNat; omega
    · have hltI : ¬ (j : Int) < (ln : Int) := by omega
      have hjl : j = ln := by omega
      have HT2 : Hid (t.l.take j = t.l) := by show _ = _; rw [hjl, HLN.out]; exact List.take_length
      have hq2 : q.size ≤ 80000000 := by have h1 := HLJ.out; have h2 := HZ.out; rw [HT2.out] at h1; omega
      clear hlt hjl
      go_wp2_with fail
      go_ret
      exact ⟨ret_s (mkL _ _ (by rw [HX.out, app_list, HQ.out, HT2.out]; simp)), HE.out.1⟩
/-- The document writes every well made tree. -/
theorem show_any (n : Nat) : ∀ t : T, Hr n t → Wf t → (wellT n t = true ∨ t.k = 5) → szT n t ≤ 100000 → ShC n t := by
  induction n with
  | zero => intro t h; cases h
  | succ n ih =>
    intro t hr hw h hz
    by_cases k5 : t.k = 5
    · exact show_range n t k5 hw
    have h := h.resolve_right k5
    have hkids := hw
    obtain ⟨_, w1, w2, w3, w4, w5, w6, w7, w8, w9⟩ := hkids
    unfold wellT at h
    have hz2 : 1 + (t.l.map (szT n)).sum ≤ 100000 := by rw [szT] at hz; exact hz
    by_cases k0 : t.k = 0
    · exact show_num n t k0 hw
    by_cases k1 : t.k = 1
    · exact show_text n t k1 hw (by simpa [k1] using h)
    by_cases k2 : t.k = 2
    · exact show_bool n t k2 hw (by simpa [k2] using h)
    by_cases k3 : t.k = 3
    · exact show_err n t k3 hw (by simpa [k3] using h)
    by_cases k4 : t.k = 4
    · exact show_ref n t k4 hw
    have hn0 : ∀ x ∈ t.l, (wellT n x = true ∨ x.k = 5) → ShC n x ∧ (shT n x).length + 1 ≤ 701 * szT n x := by
      intro x hx hx1
      have := sz_mem (n := n) hx
      exact ⟨ih x (hr.2 x hx) (w9 x hx) hx1 (by omega), sh_len _ x (w9 x hx) hx1⟩
    by_cases k6 : t.k = 6
    · simp only [k6] at h
      simp at h
      obtain ⟨h1, h2⟩ := h
      match hl : t.l, h1 with
      | [x], _ =>
        have hx := hn0 x (by rw [hl]; simp) (.inl (h2 x (by rw [hl]; simp)))
        refine show_neg n t k6 hw x hl hx.1 ?_
        rw [hl] at hz2
        simp at hz2
        have := hx.2
        omega
    by_cases k7 : t.k = 7
    · simp only [k7] at h
      simp at h
      obtain ⟨⟨h0, h1⟩, h2⟩ := h
      match hl : t.l, h1 with
      | [x, y], _ =>
        have hx := hn0 x (by rw [hl]; simp) (.inl (h2 x (by rw [hl]; simp)))
        have hy := hn0 y (by rw [hl]; simp) (.inl (h2 y (by rw [hl]; simp)))
        refine show_bin n t k7 hw x y hl hx.1 hy.1 ?_
        rw [hl] at hz2
        simp at hz2
        have := hx.2
        have := hy.2
        have := bnd_len h0
        omega
    by_cases k8 : t.k = 8
    · simp only [k8] at h
      simp at h
      obtain ⟨⟨⟨h1, _⟩, h3⟩, h2⟩ := h
      have hx : ∀ x ∈ t.l, wellT n x = true ∨ x.k = 5 := by
        intro x hx
        have := h2 x hx
        by_cases k : x.k = 5
        · exact .inr k
        · exact .inl (by simpa [k] using this)
      refine show_call n t k8 hw hr.1 (fun x hx1 => (hn0 x hx1 (hx x hx1)).1) ?_
      have e1 : (t.l.map (fun x => (shT n x).length + 1)).sum ≤ (t.l.map (fun x => 701 * szT n x)).sum := sum_le fun x hx1 => (hn0 x hx1 (hx x hx1)).2
      rw [sum_mul] at e1
      have := kno_len h1
      omega
    · simp [k0, k1, k2, k3, k4, k6, k7, k8] at h
end Go.Proofs.YtdjniiginnlmhaaGreatDoor
