/-
 The document's Show: calls, and every tree.
 Small trees of numbers and signs: that they are what a tree is to be. Plain mathematics: no program in sight.
 The law's lives of layer 10: a small formula is filled.
 The moves of a bar where more than one operation may come up. No program in sight.
-/
import Derived.Test.YtcggiljlilbdfaaV45
import Derived.Test.YtcggiljlilbdfaaV12
import Derived.Test.YtcggiljlilbdfaaV11
import Derived.Test.YtcggiljlilbdfaaV31
import Derived.Test.YtcggiljlilbdfaaV32
import Derived.Test.YtcggiljlilbdfaaV40
import Derived.Test.YtcggiljlilbdfaaV21
namespace Go.Proofs.Ytcggiljlilbdfaa
open Go.RowKit
set_option maxHeartbeats 6000000

theorem sum_take_le2 (f : T → Nat) (ls : List T) (j : Nat) (x : T) (h : ls[j]? = some x) : ((ls.take j).map f).sum + f x ≤ (ls.map f).sum := by
 have e : ls = ls.take j ++ x :: ls.drop (j + 1) := by
   obtain ⟨hj, hx⟩ := List.getElem?_eq_some_iff.1 h
   rw [← hx, ← List.drop_eq_getElem_cons hj, List.take_append_drop]
 have : (ls.map f).sum = ((ls.take j).map f).sum + (f x + ((ls.drop (j + 1)).map f).sum) := by
   conv => lhs; rw [e]
   simp
 omega
set_option maxRecDepth 100000 in
theorem show_call (n : Nat) (t : T) (hk : t.k = 8) (_hW : Wf t) (hl : t.l.length ≤ 100000) (hx : ∀ x ∈ t.l, ShC n x) (hlen : t.s.length + (t.l.map (fun x => (shT n x).length + 1)).sum + 10 ≤ 80000000) : ShC (n + 1) t := by
 intro W P pp ln cl hL
 have e0 : (t.k == 0) = false := by rw [hk]; rfl
 have e1 : (t.k == 1) = false := by rw [hk]; rfl
 have e2 : (t.k == 2) = false := by rw [hk]; rfl
 have e3 : (t.k == 3) = false := by rw [hk]; rfl
 have e4 : (t.k == 4) = false := by rw [hk]; rfl
 have e5 : (t.k == 5) = false := by rw [hk]; rfl
 have e6 : (t.k == 6) = false := by rw [hk]; rfl
 have e7 : (t.k == 7) = false := by rw [hk]; rfl
 have HX : Hid (shT (n + 1) t = t.s ++ 40 :: (joinL (t.l.map (shT n)) ++ [41])) := by show _ = _; rw [shT]; simp [hk]
 have hln : ln = t.l.length := by
   obtain ⟨p, c, h1, _⟩ := hL.form
   cases h1; rfl
 have hl2 : ln ≤ 100000 := by omega
 have HI : Hid (IsL W P (.slice pp ln cl) t.l) := hL
 have HLN : Hid (ln = t.l.length) := hln
 have HXX : Hid (∀ x ∈ t.l, ShC n x) := hx
 have HZ : Hid (t.s.length + (t.l.map (fun x => (shT n x).length + 1)).sum + 10 ≤ 80000000) := hlen
 have HQt : Hid ((bs t.s).data.toList = t.s) := rfl
 have hqs : (bs t.s).size ≤ 80000000 := by rw [bs_size]; omega
 have s1 : (⟨#[40]⟩ : ByteArray).size = 1 := rfl
 have s2 : (⟨#[41]⟩ : ByteArray).size = 1 := rfl
 have s3 : (⟨#[44]⟩ : ByteArray).size = 1 := rfl
 clear hL hk hl hx hlen hln
 go_enter Try.func39, Try.ntmps39
 go_wp2_with fail
 go_loopw [8, 9] (fun qv iv wr => ∃ (j : Nat) (q : ByteArray), j ≤ ln ∧ qv = .string q ∧ iv = .int .i64 (j : Int) ∧ q.data.toList = t.s ++ 40 :: joinL ((t.l.take j).map (shT n)) ∧ BlkX wr W.heap.size t (.slice pp ln cl) ∧ Ext W wr) (fun _ iv _ => ln - (intOf iv).toNat)
 case atStart => exact ⟨0, _, Nat.zero_le _, rfl, rfl, by rw [app_list, HQt.out]; simp [joinL], blk13_top rfl (Ext.refl _), (Ext.refl _).alloc _⟩
 case round =>
   obtain ⟨j, q, hj, rfl, rfl, hq, hB, hE⟩ := hrel
   have HE : Hid (Ext W wr ∧ BlkX wr W.heap.size t (.slice pp ln cl)) := ⟨hE, hB⟩
   have HQ : Hid (q.data.toList = t.s ++ 40 :: joinL ((t.l.take j).map (shT n))) := hq
   have HLJ : Hid (q.size ≤ t.s.length + 1 + ((t.l.take j).map (fun x => (shT n x).length + 1)).sum) := by
     show _ ≤ _
     rw [← size_list, hq]
     have := joinL_len ((t.l.take j).map (shT n))
     rw [List.map_map] at this
     simp only [List.length_append, List.length_cons]
     have e : (List.map ((fun l => l.length + 1) ∘ shT n) (t.l.take j)).sum = ((t.l.take j).map (fun x => (shT n x).length + 1)).sum := rfl
     omega
   obtain ⟨qz, ⟨k0, k1, k2, k3, k4, k5, k6, k7, k8, k9, k10, k11, k12⟩, gz⟩ := hB
   clear hq hE gz
   by_cases hlt : j < ln
   · have hltI : (j : Int) < (ln : Int) := by omega
     have hI := HI.out.ext HE.out.1
     obtain ⟨gb, off, x, lv, hpp, hx1, hA1, hgb, hA2, hLx, hce⟩ := hI.at (i := j) (by rw [← HLN.out]; exact hlt)
     clear hA1 hA2
     subst hpp
     obtain ⟨pp, cl', hlv, hcl⟩ := hLx.form
     obtain ⟨ln', hln'⟩ : ∃ ln', x.l.length = ln' := ⟨_, rfl⟩
     rw [hln'] at hlv
     subst hlv
     have HX1 : Hid (t.l[j]? = some x) := hx1
     have HC : Hid (∀ V, Ext wr V → Calls Try.prog 39 #[.agg #[.int .i64 x.k, .int .i64 x.n, .string (bs x.s), .int .i64 x.e, .int .i64 x.r.1, .int .i64 x.r.2.1, .bool x.r.2.2.1, .bool x.r.2.2.2, .int .i64 x.q.1, .int .i64 x.q.2.1, .bool x.q.2.2.1, .bool x.q.2.2.2, .slice pp ln' cl']] V fun e w' => e = .returned (.string (bs (shT n x))) ∧ Ext V w') := fun V e => HXX.out x (List.mem_of_getElem? hx1) V P pp ln' cl' (hLx.ext e)
     have hsz : q.size + (shT n x).length + 1 ≤ t.s.length + 1 + (t.l.map (fun x => (shT n x).length + 1)).sum := by
       have h1 := HLJ.out
       have h2 := sum_take_le2 (fun x => (shT n x).length + 1) t.l j x hx1
       omega
     have hsz2 : q.size + (shT n x).length + 1 ≤ 80000000 := by have := HZ.out; omega
     have HQx : Hid ((bs (shT n x)).data.toList = shT n x) := rfl
     have hqx : q.size + (bs (shT n x)).size + 1 ≤ 80000000 := by rw [bs_size]; exact hsz2
     clear hsz hsz2
     generalize bs (shT n x) = qx at *
     have c0 : wr.cell? ⟨gb, off + j * 13, none⟩ = some (.int .i64 x.k) := hce 0 _ rfl
     have c1 : wr.cell? ⟨gb, off + j * 13 + 1, none⟩ = some (.int .i64 x.n) := hce 1 _ rfl
     have c2 : wr.cell? ⟨gb, off + j * 13 + 2, none⟩ = some (.string (bs x.s)) := hce 2 _ rfl
     have c3 : wr.cell? ⟨gb, off + j * 13 + 3, none⟩ = some (.int .i64 x.e) := hce 3 _ rfl
     have c4 : wr.cell? ⟨gb, off + j * 13 + 4, none⟩ = some (.int .i64 x.r.1) := hce 4 _ rfl
     have c5 : wr.cell? ⟨gb, off + j * 13 + 5, none⟩ = some (.int .i64 x.r.2.1) := hce 5 _ rfl
     have c6 : wr.cell? ⟨gb, off + j * 13 + 6, none⟩ = some (.bool x.r.2.2.1) := hce 6 _ rfl
     have c7 : wr.cell? ⟨gb, off + j * 13 + 7, none⟩ = some (.bool x.r.2.2.2) := hce 7 _ rfl
     have c8 : wr.cell? ⟨gb, off + j * 13 + 8, none⟩ = some (.int .i64 x.q.1) := hce 8 _ rfl
     have c9 : wr.cell? ⟨gb, off + j * 13 + 9, none⟩ = some (.int .i64 x.q.2.1) := hce 9 _ rfl
     have c10 : wr.cell? ⟨gb, off + j * 13 + 10, none⟩ = some (.bool x.q.2.2.1) := hce 10 _ rfl
     have c11 : wr.cell? ⟨gb, off + j * 13 + 11, none⟩ = some (.bool x.q.2.2.2) := hce 11 _ rfl
     have c12 : wr.cell? ⟨gb, off + j * 13 + 12, none⟩ = some (.slice pp ln' cl') := hce 12 _ rfl
     clear hI hx1 hLx hce hcl hln'
     by_cases h0 : j = 0
     · have i0 : ¬ 0 < (j : Int) := by omega
       have HJ : Hid (joinL ((t.l.take j).map (shT n) ++ [shT n x]) = joinL ((t.l.take j).map (shT n)) ++ shT n x) := by show _ = _; rw [h0]; simp [joinL]
       clear h0
       go_wp2_with fail
       refine (HC.out _ (Ext.refl _)).mono ?_
       rintro e w1 ⟨rfl, E1⟩
       have HE1 : Hid (Ext W w1 ∧ BlkX w1 W.heap.size t (.slice (some ⟨gb, off, none⟩) ln cl)) := ⟨HE.out.1.trans E1, HE.out.2.ext E1⟩
       clear E1 k0 k1 k2 k3 k4 k5 k6 k7 k8 k9 k10 k11 k12 c0 c1 c2 c3 c4 c5 c6 c7 c8 c9 c10 c11 c12
       go_wp2_with fail
       go_roundw
       case rel =>
         refine ⟨j + 1, _, by omega, rfl, by go_num, ?_, HE1.out.2, HE1.out.1⟩
         rw [List.take_add_one, HX1.out]
         show _ = t.s ++ 40 :: joinL ((t.l.take j ++ [x]).map (shT n))
         rw [List.map_append]
         show _ = t.s ++ 40 :: joinL ((t.l.take j).map (shT n) ++ [shT n x])
         rw [HJ.out]
         simp only [app_list, HQ.out, HQx.out]
         simp
       case measure => show ln - ((j : Int) + 1).toNat < ln - ((j : Int)).toNat; omega
     · have i0 : 0 < (j : Int) := by omega
       have HJ : Hid (joinL ((t.l.take j).map (shT n) ++ [shT n x]) = joinL ((t.l.take j).map (shT n)) ++ 44 :: shT n x) := by
         refine joinL_snoc _ _ ?_
         intro h
         have h2 := congrArg List.length h
         rw [List.length_map, List.length_take] at h2
         have := HLN.out
         simp only [List.length_nil] at h2
         omega
       have s4 : (q ++ (⟨#[44]⟩ : ByteArray)).size = q.size + 1 := by rw [ByteArray.size_append, s3]
       clear h0
       go_wp2_with fail
       refine (HC.out _ (Ext.refl _)).mono ?_
       rintro e w1 ⟨rfl, E1⟩
       have HE1 : Hid (Ext W w1 ∧ BlkX w1 W.heap.size t (.slice (some ⟨gb, off, none⟩) ln cl)) := ⟨HE.out.1.trans E1, HE.out.2.ext E1⟩
       clear E1 k0 k1 k2 k3 k4 k5 k6 k7 k8 k9 k10 k11 k12 c0 c1 c2 c3 c4 c5 c6 c7 c8 c9 c10 c11 c12
       go_wp2_with fail
       go_roundw
       case rel =>
         refine ⟨j + 1, _, by omega, rfl, by go_num, ?_, HE1.out.2, HE1.out.1⟩
         rw [List.take_add_one, HX1.out]
         show _ = t.s ++ 40 :: joinL ((t.l.take j ++ [x]).map (shT n))
         rw [List.map_append]
         show _ = t.s ++ 40 :: joinL ((t.l.take j).map (shT n) ++ [shT n x])
         rw [HJ.out]
         simp only [app_list, HQ.out, HQx.out]
         simp
       case measure => show ln - ((j : Int) + 1).toNat < ln - ((j : Int)).toNat; omega
   · have hltI : ¬ (j : Int) < (ln : Int) := by omega
     have hjl : j = ln := by omega
     have HT2 : Hid (t.l.take j = t.l) := by show _ = _; rw [hjl, HLN.out]; exact List.take_length
     have hq2 : q.size ≤ 80000000 := by have h1 := HLJ.out; have h2 := HZ.out; rw [HT2.out] at h1; omega
     clear hlt hjl
     go_wp2_with fail
     go_ret
     exact ⟨ret_s (mkL _ _ (by rw [HX.out, app_list, HQ.out, HT2.out]; simp)), HE.out.1⟩
/-- The document writes every well made tree. -/
theorem show_any (n : Nat) : ∀ t : T, Hr n t → Wf t → (wellT n t = true ∨ t.k = 5) → szT n t ≤ 100000 → ShC n t := by
 induction n with
 | zero => intro t h; cases h
 | succ n ih =>
   intro t hr hw h hz
   by_cases k5 : t.k = 5
   · exact show_range n t k5 hw
   have h := h.resolve_right k5
   have hkids := hw
   obtain ⟨_, w1, w2, w3, w4, w5, w6, w7, w8, w9⟩ := hkids
   unfold wellT at h
   have hz2 : 1 + (t.l.map (szT n)).sum ≤ 100000 := by rw [szT] at hz; exact hz
   by_cases k0 : t.k = 0
   · exact show_num n t k0 hw
   by_cases k1 : t.k = 1
   · exact show_text n t k1 hw (by simpa [k1] using h)
   by_cases k2 : t.k = 2
   · exact show_bool n t k2 hw (by simpa [k2] using h)
   by_cases k3 : t.k = 3
   · exact show_err n t k3 hw (by simpa [k3] using h)
   by_cases k4 : t.k = 4
   · exact show_ref n t k4 hw
   have hn0 : ∀ x ∈ t.l, (wellT n x = true ∨ x.k = 5) → ShC n x ∧ (shT n x).length + 1 ≤ 701 * szT n x := by
     intro x hx hx1
     have := sz_mem (n := n) hx
     exact ⟨ih x (hr.2 x hx) (w9 x hx) hx1 (by omega), sh_len _ x (w9 x hx) hx1⟩
   by_cases k6 : t.k = 6
   · simp only [k6] at h
     simp at h
     obtain ⟨h1, h2⟩ := h
     match hl : t.l, h1 with
     | [x], _ =>
       have hx := hn0 x (by rw [hl]; simp) (.inl (h2 x (by rw [hl]; simp)))
       refine show_neg n t k6 hw x hl hx.1 ?_
       rw [hl] at hz2
       simp at hz2
       have := hx.2
       omega
   by_cases k7 : t.k = 7
   · simp only [k7] at h
     simp at h
     obtain ⟨⟨h0, h1⟩, h2⟩ := h
     match hl : t.l, h1 with
     | [x, y], _ =>
       have hx := hn0 x (by rw [hl]; simp) (.inl (h2 x (by rw [hl]; simp)))
       have hy := hn0 y (by rw [hl]; simp) (.inl (h2 y (by rw [hl]; simp)))
       refine show_bin n t k7 hw x y hl hx.1 hy.1 ?_
       rw [hl] at hz2
       simp at hz2
       have := hx.2
       have := hy.2
       have := bnd_len h0
       omega
   by_cases k8 : t.k = 8
   · simp only [k8] at h
     simp at h
     obtain ⟨⟨⟨h1, _⟩, h3⟩, h2⟩ := h
     have hx : ∀ x ∈ t.l, wellT n x = true ∨ x.k = 5 := by
       intro x hx
       have := h2 x hx
       by_cases k : x.k = 5
       · exact .inr k
       · exact .inl (by simpa [k] using this)
     refine show_call n t k8 hw hr.1 (fun x hx1 => (hn0 x hx1 (hx x hx1)).1) ?_
     have e1 : (t.l.map (fun x => (shT n x).length + 1)).sum ≤ (t.l.map (fun x => 701 * szT n x)).sum := sum_le fun x hx1 => (hn0 x hx1 (hx x hx1)).2
     rw [sum_mul] at e1
     have := kno_len h1
     omega
   · simp [k0, k1, k2, k3, k4, k6, k7, k8] at h

open Go.RowKit
set_option maxHeartbeats 2000000

theorem i64_s (a : Int) (h : -1000000 ≤ a ∧ a ≤ 1000000) : I64 a := ⟨by omega, by omega⟩
theorem wf0 (t : T) (h : t.l = []) (h1 : I64 t.k) (h2 : I64 t.n) (h3 : t.s.length ≤ maxLen) (h4 : I64 t.e) (h5 : I64 t.r.1) (h6 : I64 t.r.2.1) (h7 : I64 t.q.1) (h8 : I64 t.q.2.1) : Wf t := .mk t h1 h2 h3 h4 h5 h6 h7 h8 (by rw [h]; intro x hx; cases hx)
theorem wf_bin (s : List UInt8) (x y : T) (hs : s.length ≤ maxLen) (hx : Wf x) (hy : Wf y) : Wf (tBin s x y) := .mk _ (i64_s 7 (by decide)) (i64_s 0 (by decide)) hs (i64_s 0 (by decide)) (i64_s 0 (by decide)) (i64_s 0 (by decide)) (i64_s 0 (by decide)) (i64_s 0 (by decide)) (by
 intro z hz
 rcases List.mem_cons.1 hz with rfl | hz
 · exact hx
 · rcases List.mem_cons.1 hz with rfl | hz
   · exact hy
   · cases hz)
theorem wf_ref (r : Rf) (h1 : I64 r.1) (h2 : I64 r.2.1) : Wf (tRef r) := wf0 _ rfl (i64_s 4 (by decide)) (i64_s 0 (by decide)) (Nat.zero_le _) (i64_s 0 (by decide)) h1 h2 (i64_s 0 (by decide)) (i64_s 0 (by decide))
theorem hr_leaf (n : Nat) (t : T) (h : t.l = []) : Hr (n + 1) t := ⟨by rw [h]; decide, by rw [h]; intro x hx; cases hx⟩
theorem hr_bin (n : Nat) (s : List UInt8) (x y : T) (hx : Hr n x) (hy : Hr n y) : Hr (n + 1) (tBin s x y) := ⟨by show 2 ≤ 100000; decide, by
 intro z hz
 rcases List.mem_cons.1 hz with rfl | hz
 · exact hx
 · rcases List.mem_cons.1 hz with rfl | hz
   · exact hy
   · cases hz⟩

open Go.RowKit
set_option maxHeartbeats 6000000

def live10 : T := tBin [43] (tRef (1, 1, false, false)) (tRef (2, 2, true, true))
def live10b : T := tBin [43] (tRef (2, 1, false, false)) (tRef (2, 2, true, true))
theorem live10_par : parR [65, 49, 43, 36, 66, 36, 50] = (live10, 0, 0) := by kernel_rfl
theorem live10_fill : (if wellT 2 live10 then mpT (fiE 1 0) 2 live10 else tz) = live10b := by kernel_rfl
theorem live10_sh : shT 2 live10b = [65, 50, 43, 36, 66, 36, 50] := by kernel_rfl
theorem live10_refs : (refsT 2 live10).length = 2 := by kernel_rfl
theorem live10_hr : Hr 2 live10 ∧ Hr 2 live10b := ⟨hr_bin _ _ _ _ (hr_leaf _ _ rfl) (hr_leaf _ _ rfl), hr_bin _ _ _ _ (hr_leaf _ _ rfl) (hr_leaf _ _ rfl)⟩
theorem live10_wf : Wf live10b := wf_bin _ _ _ (by decide) (wf_ref _ (i64_s 2 (by decide)) (i64_s 1 (by decide))) (wf_ref _ (i64_s 2 (by decide)) (i64_s 2 (by decide)))
set_option maxRecDepth 100000 in
theorem lives10_any (w : World) : Calls Try.prog 12 #[] w fun e w' => e = .returned (.bool true) ∧ Ext w w' := by
 have c1 := rformula_any ⟨#[65, 49, 43, 36, 66, 36, 50]⟩ w (by decide)
 have c2 := fun V pp ln cl h => fill_any 2 live10 live10_hr.1 1 0 V (fun _ => True) pp ln cl h
 have c3 := fun V pp ln cl h => show_any 2 live10b live10_hr.2 live10_wf (.inl (by kernel_rfl)) (by have h : szT 2 live10b = 3 := (by kernel_rfl); rw [h]; decide) V (fun _ => True) pp ln cl h
 have c4 := fun V pp ln cl h => refs_any 2 live10 live10_hr.1 (by rw [live10_refs]; decide) V (fun _ => True) pp ln cl h
 rw [live10_fill] at c2
 rw [live10_sh] at c3
 unfold RFormQ at c1
 rw [show (⟨#[65, 49, 43, 36, 66, 36, 50]⟩ : ByteArray).data.toList = [65, 49, 43, 36, 66, 36, 50] from rfl, live10_par] at c1
 have HR : Hid ((refsT 2 live10).length = 2) := live10_refs
 obtain ⟨t, ht⟩ : ∃ t, live10 = t := ⟨_, rfl⟩
 obtain ⟨u, hu⟩ : ∃ u, live10b = u := ⟨_, rfl⟩
 rw [ht] at c1 c2 c4 HR
 rw [hu] at c2 c3
 obtain ⟨q, hq⟩ : ∃ q, bs [65, 50, 43, 36, 66, 36, 50] = q := ⟨_, rfl⟩
 rw [hq] at c3
 have HQ : Hid (bs [65, 50, 43, 36, 66, 36, 50] = q) := hq
 clear ht hu hq
 go_enter Try.func12, Try.ntmps12
 go_wp2_with fail
 refine c1.mono ?_
 rintro e w1 ⟨x, lv, pa, pe, rfl, L1, E1, h1⟩
 rw [if_pos trivial] at h1
 obtain ⟨rfl, rfl, rfl⟩ := h1
 obtain ⟨pp, cl, hlv, hcl⟩ := L1.form
 obtain ⟨ln, hln⟩ : ∃ ln, x.l.length = ln := ⟨_, rfl⟩
 rw [hln] at hlv
 subst hlv
 have HL1 : Hid (IsL w1 (fun _ => True) (.slice pp ln cl) x.l ∧ Ext w w1) := ⟨L1.mono (fun _ _ _ => trivial), E1⟩
 clear L1 hcl hln E1 c1
 unfold aggX
 go_wp2_with fail
 have HL2 : Hid (IsL (w1.alloc (.cells #[.int .i64 x.k, .int .i64 x.n, .string (bs x.s), .int .i64 x.e, .int .i64 x.r.1, .int .i64 x.r.2.1, .bool x.r.2.2.1, .bool x.r.2.2.2, .int .i64 x.q.1, .int .i64 x.q.2.1, .bool x.q.2.2.1, .bool x.q.2.2.2, .slice pp ln cl] 26)) (fun _ => True) (.slice pp ln cl) x.l ∧ Ext w (w1.alloc (.cells #[.int .i64 x.k, .int .i64 x.n, .string (bs x.s), .int .i64 x.e, .int .i64 x.r.1, .int .i64 x.r.2.1, .bool x.r.2.2.1, .bool x.r.2.2.2, .int .i64 x.q.1, .int .i64 x.q.2.1, .bool x.q.2.2.1, .bool x.q.2.2.2, .slice pp ln cl] 26)) ∧ BlkX (w1.alloc (.cells #[.int .i64 x.k, .int .i64 x.n, .string (bs x.s), .int .i64 x.e, .int .i64 x.r.1, .int .i64 x.r.2.1, .bool x.r.2.2.1, .bool x.r.2.2.2, .int .i64 x.q.1, .int .i64 x.q.2.1, .bool x.q.2.2.1, .bool x.q.2.2.2, .slice pp ln cl] 26)) w1.heap.size x (.slice pp ln cl)) := ⟨HL1.out.1.ext ((Ext.refl _).alloc _), HL1.out.2.alloc _, blk13_top rfl (Ext.refl _)⟩
 refine (c2 _ pp ln cl HL2.out.1).mono ?_
 rintro e w2 ⟨p, l, c, rfl, L2, E2⟩
 have HL3 : Hid (IsL w2 (fun _ => True) (.slice pp ln cl) x.l ∧ Ext w w2 ∧ BlkX w2 w1.heap.size x (.slice pp ln cl) ∧ IsL w2 (fun _ => True) (.slice p l c) u.l) := ⟨HL2.out.1.ext E2, HL2.out.2.1.trans E2, HL2.out.2.2.ext E2, L2.mono (fun _ _ _ => trivial)⟩
 clear L2 E2 HL2 HL1 c2
 unfold aggX
 go_wp2_with fail
 refine (c3 _ p l c HL3.out.2.2.2).mono ?_
 rintro e w3 ⟨rfl, E3⟩
 have HL4 : Hid (IsL w3 (fun _ => True) (.slice pp ln cl) x.l ∧ Ext w w3 ∧ BlkX w3 w1.heap.size x (.slice pp ln cl)) := ⟨HL3.out.1.ext E3, HL3.out.2.1.trans E3, HL3.out.2.2.1.ext E3⟩
 obtain ⟨qz, ⟨k0, k1, k2, k3, k4, k5, k6, k7, k8, k9, k10, k11, k12⟩, gz⟩ := HL4.out.2.2
 clear E3 HL3 c3 gz
 have e0 : (q.toList == [65, 50, 43, 36, 66, 36, 50]) = true := by rw [← HQ.out, ByteArray.toList_eq]; rfl
 go_wp2_with fail
 refine (c4 _ pp ln cl HL4.out.1).mono ?_
 rintro e w4 ⟨v, rfl, R4, E4⟩
 have HE : Hid (Ext w w4) := HL4.out.2.1.trans E4
 have hv : ∃ p c, v = .slice p 2 c := by
   rcases R4 with ⟨_, h⟩ | ⟨g, c, h, _⟩
   · have := HR.out; rw [h] at this; exact absurd this (by decide)
   · rw [HR.out] at h; exact ⟨_, _, h⟩
 obtain ⟨p4, c4', rfl⟩ := hv
 clear R4 E4 c4 k0 k1 k2 k3 k4 k5 k6 k7 k8 k9 k10 k11 k12
 go_wp2_with fail
 go_ret
 exact ⟨rfl, HE.out⟩

open Go

section
variable {P : Program} {ops : Array Oper} {Q : Exit → Act → World → Prop} {md : Region.Mode} {B : Nat → Bool} {S : World → Prop}
/-- Each of rs may come up next. -/
def Bars (P : Program) (md : Region.Mode) (ops : Array Oper) (Q : Exit → Act → World → Prop) (B : Nat → Bool) (S : World → Prop) (n : Nat) (l : Array Bool) (a : Act) (w : World) (rs : List Nat) : Prop :=
 ∀ i ∈ rs, wpOp P ops Q i (fun x v => (B i = false → S v) ∧ wpBar P md ops Q B S n (l.setIfInBounds i true) x v) a w
theorem Bars.nil {n : Nat} {l : Array Bool} {a : Act} {w : World} : Bars P md ops Q B S n l a w [] := fun _ h => by cases h
theorem Bars.cons {n : Nat} {l : Array Bool} {a : Act} {w : World} {i : Nat} {o : Oper} {rs : List Nat} (ho : ops[i]? = some o)
   (h : ∀ K : Act → World → Prop, Shut (∀ a w, (B i = false → S w) → wpBar P md ops Q B S n (l.setIfInBounds i true) a w → K a w) → if Region.wanted o (yielded ops a.tmps) = true then Oper.wp P o a w K Q else K (a.put o.dst undef) w)
   (hs : Bars P md ops Q B S n l a w rs) : Bars P md ops Q B S n l a w (i :: rs) := fun j hj => by
 rcases List.mem_cons.1 hj with rfl | hj
 · exact wpOp_step ho fun K hK => h K fun a w hS hW => hK a w ⟨hS, hW⟩
 · exact hs j hj
theorem bar_list {rs : List Nat} {n : Nat} {l : Array Bool} {a : Act} {w : World} (hr : Region.ready md ops l = rs) (hne : rs ≠ []) (h : Bars P md ops Q B S n l a w rs) : wpBar P md ops Q B S (n + 1) l a w :=
 ⟨fun h0 => absurd (hr.symm.trans h0) hne, fun i hi => h i (hr ▸ hi)⟩
end
end Go.Proofs.Ytcggiljlilbdfaa
