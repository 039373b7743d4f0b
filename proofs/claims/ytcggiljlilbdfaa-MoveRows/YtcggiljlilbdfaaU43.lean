/-
 The document's Show: calls, and every tree.
 Small trees of numbers and signs: that they are what a tree is to be. Plain mathematics: no program in sight.
 The law's lives of layer 11: a row comes into a small formula, and goes.
 Formulas when a row comes and goes: well made, and back. Plain mathematics: no program in sight.
-/
import Derived.Test.YtcggiljlilbdfaaU42
import Derived.Test.YtcggiljlilbdfaaU12
import Derived.Test.YtcggiljlilbdfaaU11
import Derived.Test.YtcggiljlilbdfaaU30
import Derived.Test.YtcggiljlilbdfaaU37
import Derived.Test.YtcggiljlilbdfaaU22
namespace Go.Proofs.Ytcggiljlilbdfaa
open Go.RowKit
set_option maxHeartbeats 6000000

theorem sum_take_le2 (f : T → Nat) (ls : List T) (j : Nat) (x : T) (h : ls[j]? = some x) : ((ls.take j).map f).sum + f x ≤ (ls.map f).sum := by
 have e : ls = ls.take j ++ x :: ls.drop (j + 1) := by
   obtain ⟨hj, hx⟩ := List.getElem?_eq_some_iff.1 h
   rw [← hx, ← List.drop_eq_getElem_cons hj, List.take_append_drop]
 have : (ls.map f).sum = ((ls.take j).map f).sum + (f x + ((ls.drop (j + 1)).map f).sum) := by
   conv => lhs; rw [e]
   simp
 omega
set_option maxRecDepth 100000 in
theorem show_call (n : Nat) (t : T) (hk : t.k = 8) (_hW : Wf t) (hl : t.l.length ≤ 100000) (hx : ∀ x ∈ t.l, ShC n x) (hlen : t.s.length + (t.l.map (fun x => (shT n x).length + 1)).sum + 10 ≤ 80000000) : ShC (n + 1) t := by
 intro W P pp ln cl hL
 have e0 : (t.k == 0) = false := by rw [hk]; rfl
 have e1 : (t.k == 1) = false := by rw [hk]; rfl
 have e2 : (t.k == 2) = false := by rw [hk]; rfl
 have e3 : (t.k == 3) = false := by rw [hk]; rfl
 have e4 : (t.k == 4) = false := by rw [hk]; rfl
 have e5 : (t.k == 5) = false := by rw [hk]; rfl
 have e6 : (t.k == 6) = false := by rw [hk]; rfl
 have e7 : (t.k == 7) = false := by rw [hk]; rfl
 have HX : Hid (shT (n + 1) t = t.s ++ 40 :: (joinL (t.l.map (shT n)) ++ [41])) := by show _ = _; rw [shT]; simp [hk]
 have hln : ln = t.l.length := by
   obtain ⟨p, c, h1, _⟩ := hL.form
   cases h1; rfl
 have hl2 : ln ≤ 100000 := by omega
 have HI : Hid (IsL W P (.slice pp ln cl) t.l) := hL
 have HLN : Hid (ln = t.l.length) := hln
 have HXX : Hid (∀ x ∈ t.l, ShC n x) := hx
 have HZ : Hid (t.s.length + (t.l.map (fun x => (shT n x).length + 1)).sum + 10 ≤ 80000000) := hlen
 have HQt : Hid ((bs t.s).data.toList = t.s) := rfl
 have hqs : (bs t.s).size ≤ 80000000 := by rw [bs_size]; omega
 have s1 : (⟨#[40]⟩ : ByteArray).size = 1 := rfl
 have s2 : (⟨#[41]⟩ : ByteArray).size = 1 := rfl
 have s3 : (⟨#[44]⟩ : ByteArray).size = 1 := rfl
 clear hL hk hl hx hlen hln
 go_enter Try.func39, Try.ntmps39
 go_wp2_with fail
 go_loopw [8, 9] (fun qv iv wr => ∃ (j : Nat) (q : ByteArray), j ≤ ln ∧ qv = .string q ∧ iv = .int .i64 (j : Int) ∧ q.data.toList = t.s ++ 40 :: joinL ((t.l.take j).map (shT n)) ∧ BlkX wr W.heap.size t (.slice pp ln cl) ∧ Ext W wr) (fun _ iv _ => ln - (intOf iv).toNat)
 case atStart => exact ⟨0, _, Nat.zero_le _, rfl, rfl, by rw [app_list, HQt.out]; simp [joinL], blk13_top rfl (Ext.refl _), (Ext.refl _).alloc _⟩
 case round =>
   obtain ⟨j, q, hj, rfl, rfl, hq, hB, hE⟩ := hrel
   have HE : Hid (Ext W wr ∧ BlkX wr W.heap.size t (.slice pp ln cl)) := ⟨hE, hB⟩
   have HQ : Hid (q.data.toList = t.s ++ 40 :: joinL ((t.l.take j).map (shT n))) := hq
   have HLJ : Hid (q.size ≤ t.s.length + 1 + ((t.l.take j).map (fun x => (shT n x).length + 1)).sum) := by
     show _ ≤ _
     rw [← size_list, hq]
     have := joinL_len ((t.l.take j).map (shT n))
     rw [List.map_map] at this
     simp only [List.length_append, List.length_cons]
     have e : (List.map ((fun l => l.length + 1) ∘ shT n) (t.l.take j)).sum = ((t.l.take j).map (fun x => (shT n x).length + 1)).sum := rfl
     omega
   obtain ⟨qz, ⟨k0, k1, k2, k3, k4, k5, k6, k7, k8, k9, k10, k11, k12⟩, gz⟩ := hB
   clear hq hE gz
   by_cases hlt : j < ln
   · have hltI : (j : Int) < (ln : Int) := by omega
     have hI := HI.out.ext HE.out.1
     obtain ⟨gb, off, x, lv, hpp, hx1, hA1, hgb, hA2, hLx, hce⟩ := hI.at (i := j) (by rw [← HLN.out]; exact hlt)
     clear hA1 hA2
     subst hpp
     obtain ⟨pp, cl', hlv, hcl⟩ := hLx.form
     obtain ⟨ln', hln'⟩ : ∃ ln', x.l.length = ln' := ⟨_, rfl⟩
     rw [hln'] at hlv
     subst hlv
     have HX1 : Hid (t.l[j]? = some x) := hx1
     have HC : Hid (∀ V, Ext wr V → Calls Try.prog 39 #[.agg #[.int .i64 x.k, .int .i64 x.n, .string (bs x.s), .int .i64 x.e, .int .i64 x.r.1, .int .i64 x.r.2.1, .bool x.r.2.2.1, .bool x.r.2.2.2, .int .i64 x.q.1, .int .i64 x.q.2.1, .bool x.q.2.2.1, .bool x.q.2.2.2, .slice pp ln' cl']] V fun e w' => e = .returned (.string (bs (shT n x))) ∧ Ext V w') := fun V e => HXX.out x (List.mem_of_getElem? hx1) V P pp ln' cl' (hLx.ext e)
     have hsz : q.size + (shT n x).length + 1 ≤ t.s.length + 1 + (t.l.map (fun x => (shT n x).length + 1)).sum := by
       have h1 := HLJ.out
       have h2 := sum_take_le2 (fun x => (shT n x).length + 1) t.l j x hx1
       omega
     have hsz2 : q.size + (shT n x).length + 1 ≤ 80000000 := by have := HZ.out; omega
     have HQx : Hid ((bs (shT n x)).data.toList = shT n x) := rfl
     have hqx : q.size + (bs (shT n x)).size + 1 ≤ 80000000 := by rw [bs_size]; exact hsz2
     clear hsz hsz2
     generalize bs (shT n x) = qx at *
     have c0 : wr.cell? ⟨gb, off + j * 13, none⟩ = some (.int .i64 x.k) := hce 0 _ rfl
     have c1 : wr.cell? ⟨gb, off + j * 13 + 1, none⟩ = some (.int .i64 x.n) := hce 1 _ rfl
     have c2 : wr.cell? ⟨gb, off + j * 13 + 2, none⟩ = some (.string (bs x.s)) := hce 2 _ rfl
     have c3 : wr.cell? ⟨gb, off + j * 13 + 3, none⟩ = some (.int .i64 x.e) := hce 3 _ rfl
     have c4 : wr.cell? ⟨gb, off + j * 13 + 4, none⟩ = some (.int .i64 x.r.1) := hce 4 _ rfl
     have c5 : wr.cell? ⟨gb, off + j * 13 + 5, none⟩ = some (.int .i64 x.r.2.1) := hce 5 _ rfl
     have c6 : wr.cell? ⟨gb, off + j * 13 + 6, none⟩ = some (.bool x.r.2.2.1) := hce 6 _ rfl
     have c7 : wr.cell? ⟨gb, off + j * 13 + 7, none⟩ = some (.bool x.r.2.2.2) := hce 7 _ rfl
     have c8 : wr.cell? ⟨gb, off + j * 13 + 8, none⟩ = some (.int .i64 x.q.1) := hce 8 _ rfl
     have c9 : wr.cell? ⟨gb, off + j * 13 + 9, none⟩ = some (.int .i64 x.q.2.1) := hce 9 _ rfl
     have c10 : wr.cell? ⟨gb, off + j * 13 + 10, none⟩ = some (.bool x.q.2.2.1) := hce 10 _ rfl
     have c11 : wr.cell? ⟨gb, off + j * 13 + 11, none⟩ = some (.bool x.q.2.2.2) := hce 11 _ rfl
     have c12 : wr.cell? ⟨gb, off + j * 13 + 12, none⟩ = some (.slice pp ln' cl') := hce 12 _ rfl
     clear hI hx1 hLx hce hcl hln'
     by_cases h0 : j = 0
     · have i0 : ¬ 0 < (j : Int) := by omega
       have HJ : Hid (joinL ((t.l.take j).map (shT n) ++ [shT n x]) = joinL ((t.l.take j).map (shT n)) ++ shT n x) := by show _ = _; rw [h0]; simp [joinL]
       clear h0
       go_wp2_with fail
       refine (HC.out _ (Ext.refl _)).mono ?_
       rintro e w1 ⟨rfl, E1⟩
       have HE1 : Hid (Ext W w1 ∧ BlkX w1 W.heap.size t (.slice (some ⟨gb, off, none⟩) ln cl)) := ⟨HE.out.1.trans E1, HE.out.2.ext E1⟩
       clear E1 k0 k1 k2 k3 k4 k5 k6 k7 k8 k9 k10 k11 k12 c0 c1 c2 c3 c4 c5 c6 c7 c8 c9 c10 c11 c12
       go_wp2_with fail
       go_roundw
       case rel =>
         refine ⟨j + 1, _, by omega, rfl, by go_num, ?_, HE1.out.2, HE1.out.1⟩
         rw [List.take_add_one, HX1.out]
         show _ = t.s ++ 40 :: joinL ((t.l.take j ++ [x]).map (shT n))
         rw [List.map_append]
         show _ = t.s ++ 40 :: joinL ((t.l.take j).map (shT n) ++ [shT n x])
         rw [HJ.out]
         simp only [app_list, HQ.out, HQx.out]
         simp
       case measure => show ln - ((j : Int) + 1).toNat < ln - ((j : Int)).toNat; omega
     · have i0 : 0 < (j : Int) := by omega
       have HJ : Hid (joinL ((t.l.take j).map (shT n) ++ [shT n x]) = joinL ((t.l.take j).map (shT n)) ++ 44 :: shT n x) := by
         refine joinL_snoc _ _ ?_
         intro h
         have h2 := congrArg List.length h
         rw [List.length_map, List.length_take] at h2
         have := HLN.out
         simp only [List.length_nil] at h2
         omega
       have s4 : (q ++ (⟨#[44]⟩ : ByteArray)).size = q.size + 1 := by rw [ByteArray.size_append, s3]
       clear h0
       go_wp2_with fail
       refine (HC.out _ (Ext.refl _)).mono ?_
       rintro e w1 ⟨rfl, E1⟩
       have HE1 : Hid (Ext W w1 ∧ BlkX w1 W.heap.size t (.slice (some ⟨gb, off, none⟩) ln cl)) := ⟨HE.out.1.trans E1, HE.out.2.ext E1⟩
       clear E1 k0 k1 k2 k3 k4 k5 k6 k7 k8 k9 k10 k11 k12 c0 c1 c2 c3 c4 c5 c6 c7 c8 c9 c10 c11 c12
       go_wp2_with fail
       go_roundw
       case rel =>
         refine ⟨j + 1, _, by omega, rfl, by go_num, ?_, HE1.out.2, HE1.out.1⟩
         rw [List.take_add_one, HX1.out]
         show _ = t.s ++ 40 :: joinL ((t.l.take j ++ [x]).map (shT n))
         rw [List.map_append]
         show _ = t.s ++ 40 :: joinL ((t.l.take j).map (shT n) ++ [shT n x])
         rw [HJ.out]
         simp only [app_list, HQ.out, HQx.out]
         simp
       case measure => show ln - ((j : Int) + 1).toNat < ln - ((j : Int)).toNat; omega
   · have hltI : ¬ (j : Int) < (ln : Int) := by omega
     have hjl : j = ln := by omega
     have HT2 : Hid (t.l.take j = t.l) := by show _ = _; rw [hjl, HLN.out]; exact List.take_length
     have hq2 : q.size ≤ 80000000 := by have h1 := HLJ.out; have h2 := HZ.out; rw [HT2.out] at h1; omega
     clear hlt hjl
     go_wp2_with fail
     go_ret
     exact ⟨ret_s (mkL _ _ (by rw [HX.out, app_list, HQ.out, HT2.out]; simp)), HE.out.1⟩
/-- The document writes every well made tree. -/
theorem show_any (n : Nat) : ∀ t : T, Hr n t → Wf t → (wellT n t = true ∨ t.k = 5) → szT n t ≤ 100000 → ShC n t := by
 induction n with
 | zero => intro t h; cases h
 | succ n ih =>
   intro t hr hw h hz
   by_cases k5 : t.k = 5
   · exact show_range n t k5 hw
   have h := h.resolve_right k5
   have hkids := hw
   obtain ⟨_, w1, w2, w3, w4, w5, w6, w7, w8, w9⟩ := hkids
   unfold wellT at h
   have hz2 : 1 + (t.l.map (szT n)).sum ≤ 100000 := by rw [szT] at hz; exact hz
   by_cases k0 : t.k = 0
   · exact show_num n t k0 hw
   by_cases k1 : t.k = 1
   · exact show_text n t k1 hw (by simpa [k1] using h)
   by_cases k2 : t.k = 2
   · exact show_bool n t k2 hw (by simpa [k2] using h)
   by_cases k3 : t.k = 3
   · exact show_err n t k3 hw (by simpa [k3] using h)
   by_cases k4 : t.k = 4
   · exact show_ref n t k4 hw
   have hn0 : ∀ x ∈ t.l, (wellT n x = true ∨ x.k = 5) → ShC n x ∧ (shT n x).length + 1 ≤ 701 * szT n x := by
     intro x hx hx1
     have := sz_mem (n := n) hx
     exact ⟨ih x (hr.2 x hx) (w9 x hx) hx1 (by omega), sh_len _ x (w9 x hx) hx1⟩
   by_cases k6 : t.k = 6
   · simp only [k6] at h
     simp at h
     obtain ⟨h1, h2⟩ := h
     match hl : t.l, h1 with
     | [x], _ =>
       have hx := hn0 x (by rw [hl]; simp) (.inl (h2 x (by rw [hl]; simp)))
       refine show_neg n t k6 hw x hl hx.1 ?_
       rw [hl] at hz2
       simp at hz2
       have := hx.2
       omega
   by_cases k7 : t.k = 7
   · simp only [k7] at h
     simp at h
     obtain ⟨⟨h0, h1⟩, h2⟩ := h
     match hl : t.l, h1 with
     | [x, y], _ =>
       have hx := hn0 x (by rw [hl]; simp) (.inl (h2 x (by rw [hl]; simp)))
       have hy := hn0 y (by rw [hl]; simp) (.inl (h2 y (by rw [hl]; simp)))
       refine show_bin n t k7 hw x y hl hx.1 hy.1 ?_
       rw [hl] at hz2
       simp at hz2
       have := hx.2
       have := hy.2
       have := bnd_len h0
       omega
   by_cases k8 : t.k = 8
   · simp only [k8] at h
     simp at h
     obtain ⟨⟨⟨h1, _⟩, h3⟩, h2⟩ := h
     have hx : ∀ x ∈ t.l, wellT n x = true ∨ x.k = 5 := by
       intro x hx
       have := h2 x hx
       by_cases k : x.k = 5
       · exact .inr k
       · exact .inl (by simpa [k] using this)
     refine show_call n t k8 hw hr.1 (fun x hx1 => (hn0 x hx1 (hx x hx1)).1) ?_
     have e1 : (t.l.map (fun x => (shT n x).length + 1)).sum ≤ (t.l.map (fun x => 701 * szT n x)).sum := sum_le fun x hx1 => (hn0 x hx1 (hx x hx1)).2
     rw [sum_mul] at e1
     have := kno_len h1
     omega
   · simp [k0, k1, k2, k3, k4, k6, k7, k8] at h

open Go.RowKit
set_option maxHeartbeats 2000000

theorem i64_s (a : Int) (h : -1000000 ≤ a ∧ a ≤ 1000000) : I64 a := ⟨by omega, by omega⟩
theorem wf0 (t : T) (h : t.l = []) (h1 : I64 t.k) (h2 : I64 t.n) (h3 : t.s.length ≤ maxLen) (h4 : I64 t.e) (h5 : I64 t.r.1) (h6 : I64 t.r.2.1) (h7 : I64 t.q.1) (h8 : I64 t.q.2.1) : Wf t := .mk t h1 h2 h3 h4 h5 h6 h7 h8 (by rw [h]; intro x hx; cases hx)
theorem wf_bin (s : List UInt8) (x y : T) (hs : s.length ≤ maxLen) (hx : Wf x) (hy : Wf y) : Wf (tBin s x y) := .mk _ (i64_s 7 (by decide)) (i64_s 0 (by decide)) hs (i64_s 0 (by decide)) (i64_s 0 (by decide)) (i64_s 0 (by decide)) (i64_s 0 (by decide)) (i64_s 0 (by decide)) (by
 intro z hz
 rcases List.mem_cons.1 hz with rfl | hz
 · exact hx
 · rcases List.mem_cons.1 hz with rfl | hz
   · exact hy
   · cases hz)
theorem wf_ref (r : Rf) (h1 : I64 r.1) (h2 : I64 r.2.1) : Wf (tRef r) := wf0 _ rfl (i64_s 4 (by decide)) (i64_s 0 (by decide)) (Nat.zero_le _) (i64_s 0 (by decide)) h1 h2 (i64_s 0 (by decide)) (i64_s 0 (by decide))
theorem hr_leaf (n : Nat) (t : T) (h : t.l = []) : Hr (n + 1) t := ⟨by rw [h]; decide, by rw [h]; intro x hx; cases hx⟩
theorem hr_bin (n : Nat) (s : List UInt8) (x y : T) (hx : Hr n x) (hy : Hr n y) : Hr (n + 1) (tBin s x y) := ⟨by show 2 ≤ 100000; decide, by
 intro z hz
 rcases List.mem_cons.1 hz with rfl | hz
 · exact hx
 · rcases List.mem_cons.1 hz with rfl | hz
   · exact hy
   · cases hz⟩
theorem wf_range (r q : Rf) (h1 : I64 r.1) (h2 : I64 r.2.1) (h3 : I64 q.1) (h4 : I64 q.2.1) : Wf (tRange r q) := wf0 _ rfl (i64_s 5 (by decide)) (i64_s 0 (by decide)) (Nat.zero_le _) (i64_s 0 (by decide)) h1 h2 h3 h4
theorem wf_err (e : Int) (h : I64 e) : Wf (tErr e) := wf0 _ rfl (i64_s 3 (by decide)) (i64_s 0 (by decide)) (Nat.zero_le _) h (i64_s 0 (by decide)) (i64_s 0 (by decide)) (i64_s 0 (by decide)) (i64_s 0 (by decide))
theorem wf_call1 (s : List UInt8) (x : T) (hs : s.length ≤ maxLen) (hx : Wf x) : Wf (tCall s [x]) := .mk _ (i64_s 8 (by decide)) (i64_s 0 (by decide)) hs (i64_s 0 (by decide)) (i64_s 0 (by decide)) (i64_s 0 (by decide)) (i64_s 0 (by decide)) (i64_s 0 (by decide)) (by
 intro z hz
 rcases List.mem_cons.1 hz with rfl | hz
 · exact hx
 · cases hz)
theorem hr_call1 (n : Nat) (s : List UInt8) (x : T) (hx : Hr n x) : Hr (n + 1) (tCall s [x]) := ⟨by show 1 ≤ 100000; decide, by
 intro z hz
 rcases List.mem_cons.1 hz with rfl | hz
 · exact hx
 · cases hz⟩

open Go.RowKit
set_option maxHeartbeats 6000000

def live11 : T := tBin [43] (tCall [83, 85, 77] [tRange (1, 1, false, false) (5, 1, false, false)]) (tRef (3, 1, false, false))
def live11a : T := tBin [43] (tCall [83, 85, 77] [tRange (1, 1, false, false) (6, 1, false, false)]) (tRef (4, 1, false, false))
def live11b : T := tBin [43] (tCall [83, 85, 77] [tRange (1, 1, false, false) (4, 1, false, false)]) (tErr 1)
theorem live11_par : parR [83, 85, 77, 40, 65, 49, 58, 65, 53, 41, 43, 65, 51] = (live11, 0, 0) := by kernel_rfl
theorem live11_in : (if wellT 3 live11 then mpT (chE (inR 3) (inV 3)) 3 live11 else tz) = live11a := by kernel_rfl
theorem live11_de : (if wellT 3 live11 then mpT (chE (deR 3) (deV 3)) 3 live11 else tz) = live11b := by kernel_rfl
theorem live11_sha : shT 3 live11a = [83, 85, 77, 40, 65, 49, 58, 65, 54, 41, 43, 65, 52] := by kernel_rfl
theorem live11_shb : shT 3 live11b = [83, 85, 77, 40, 65, 49, 58, 65, 52, 41, 43, 35, 82, 69, 70, 33] := by kernel_rfl
theorem live11_hr : Hr 3 live11 ∧ Hr 3 live11a ∧ Hr 3 live11b := ⟨hr_bin _ _ _ _ (hr_call1 _ _ _ (hr_leaf _ _ rfl)) (hr_leaf _ _ rfl), hr_bin _ _ _ _ (hr_call1 _ _ _ (hr_leaf _ _ rfl)) (hr_leaf _ _ rfl), hr_bin _ _ _ _ (hr_call1 _ _ _ (hr_leaf _ _ rfl)) (hr_leaf _ _ rfl)⟩
theorem live11_wfa : Wf live11a := wf_bin _ _ _ (by decide) (wf_call1 _ _ (by decide) (wf_range _ _ (i64_s 1 (by decide)) (i64_s 1 (by decide)) (i64_s 6 (by decide)) (i64_s 1 (by decide)))) (wf_ref _ (i64_s 4 (by decide)) (i64_s 1 (by decide)))
theorem live11_wfb : Wf live11b := wf_bin _ _ _ (by decide) (wf_call1 _ _ (by decide) (wf_range _ _ (i64_s 1 (by decide)) (i64_s 1 (by decide)) (i64_s 4 (by decide)) (i64_s 1 (by decide)))) (wf_err _ (i64_s 1 (by decide)))
set_option maxRecDepth 100000 in
theorem lives11_any (w : World) : Calls Try.prog 31 #[] w fun e w' => e = .returned (.bool true) ∧ Ext w w' := by
 have c1 := rformula_any ⟨#[83, 85, 77, 40, 65, 49, 58, 65, 53, 41, 43, 65, 51]⟩ w (by decide)
 have ca := fun V pp ln cl h => insert_any 3 live11 live11_hr.1 3 V (fun _ => True) pp ln cl h
 have cb := fun V pp ln cl h => delete_any 3 live11 live11_hr.1 3 V (fun _ => True) pp ln cl h
 have s1 := fun V pp ln cl h => show_any 3 live11a live11_hr.2.1 live11_wfa (.inl (by kernel_rfl)) (by have h : szT 3 live11a = 4 := (by kernel_rfl); rw [h]; decide) V (fun _ => True) pp ln cl h
 have s2 := fun V pp ln cl h => show_any 3 live11b live11_hr.2.2 live11_wfb (.inl (by kernel_rfl)) (by have h : szT 3 live11b = 4 := (by kernel_rfl); rw [h]; decide) V (fun _ => True) pp ln cl h
 rw [live11_in] at ca
 rw [live11_de] at cb
 rw [live11_sha] at s1
 rw [live11_shb] at s2
 unfold RFormQ at c1
 rw [show (⟨#[83, 85, 77, 40, 65, 49, 58, 65, 53, 41, 43, 65, 51]⟩ : ByteArray).data.toList = [83, 85, 77, 40, 65, 49, 58, 65, 53, 41, 43, 65, 51] from rfl, live11_par] at c1
 obtain ⟨t, ht⟩ : ∃ t, live11 = t := ⟨_, rfl⟩
 obtain ⟨u, hu⟩ : ∃ u, live11a = u := ⟨_, rfl⟩
 obtain ⟨v, hv⟩ : ∃ v, live11b = v := ⟨_, rfl⟩
 rw [ht] at c1 ca cb
 rw [hu] at ca s1
 rw [hv] at cb s2
 obtain ⟨qa, hqa⟩ : ∃ q, bs [83, 85, 77, 40, 65, 49, 58, 65, 54, 41, 43, 65, 52] = q := ⟨_, rfl⟩
 obtain ⟨qb, hqb⟩ : ∃ q, bs [83, 85, 77, 40, 65, 49, 58, 65, 52, 41, 43, 35, 82, 69, 70, 33] = q := ⟨_, rfl⟩
 rw [hqa] at s1
 rw [hqb] at s2
 have e1 : (qa.toList == [83, 85, 77, 40, 65, 49, 58, 65, 54, 41, 43, 65, 52]) = true := by rw [← hqa, ByteArray.toList_eq]; rfl
 have e2 : (qb.toList == [83, 85, 77, 40, 65, 49, 58, 65, 52, 41, 43, 35, 82, 69, 70, 33]) = true := by rw [← hqb, ByteArray.toList_eq]; rfl
 clear ht hu hv hqa hqb
 go_enter Try.func31, Try.ntmps31
 go_wp2_with fail
 refine c1.mono ?_
 rintro e w1 ⟨x, lv, pa, pe, rfl, L1, E1, h1⟩
 rw [if_pos trivial] at h1
 obtain ⟨rfl, rfl, rfl⟩ := h1
 obtain ⟨pp, cl, hlv, hcl⟩ := L1.form
 obtain ⟨ln, hln⟩ : ∃ ln, x.l.length = ln := ⟨_, rfl⟩
 rw [hln] at hlv
 subst hlv
 have HL : Hid (IsL (w1.alloc (.cells #[.int .i64 x.k, .int .i64 x.n, .string (bs x.s), .int .i64 x.e, .int .i64 x.r.1, .int .i64 x.r.2.1, .bool x.r.2.2.1, .bool x.r.2.2.2, .int .i64 x.q.1, .int .i64 x.q.2.1, .bool x.q.2.2.1, .bool x.q.2.2.2, .slice pp ln cl] 26)) (fun _ => True) (.slice pp ln cl) x.l ∧ Ext w (w1.alloc (.cells #[.int .i64 x.k, .int .i64 x.n, .string (bs x.s), .int .i64 x.e, .int .i64 x.r.1, .int .i64 x.r.2.1, .bool x.r.2.2.1, .bool x.r.2.2.2, .int .i64 x.q.1, .int .i64 x.q.2.1, .bool x.q.2.2.1, .bool x.q.2.2.2, .slice pp ln cl] 26)) ∧ BlkX (w1.alloc (.cells #[.int .i64 x.k, .int .i64 x.n, .string (bs x.s), .int .i64 x.e, .int .i64 x.r.1, .int .i64 x.r.2.1, .bool x.r.2.2.1, .bool x.r.2.2.2, .int .i64 x.q.1, .int .i64 x.q.2.1, .bool x.q.2.2.1, .bool x.q.2.2.2, .slice pp ln cl] 26)) w1.heap.size x (.slice pp ln cl)) := ⟨(L1.mono (fun _ _ _ => trivial)).ext ((Ext.refl _).alloc _), E1.alloc _, blk13_top rfl (Ext.refl _)⟩
 clear L1 hcl hln E1 c1
 unfold aggX
 go_wp2_with fail
 refine (ca _ pp ln cl HL.out.1).mono ?_
 rintro e wa1 ⟨p1, l1, c1, rfl, L1, E1⟩
 replace HL : Hid (IsL wa1 (fun _ => True) (.slice pp ln cl) x.l ∧ Ext w wa1 ∧ BlkX wa1 w1.heap.size x (.slice pp ln cl)) := ⟨HL.out.1.ext E1, HL.out.2.1.trans E1, HL.out.2.2.ext E1⟩
 have HU1 : Hid (IsL wa1 (fun _ => True) (.slice p1 l1 c1) u.l) := L1.mono (fun _ _ _ => trivial)
 clear L1 E1
 unfold aggX
 go_wp2_with fail
 refine (s1 _ p1 l1 c1 HU1.out).mono ?_
 rintro e wb1 ⟨rfl, E1⟩
 replace HL : Hid (IsL wb1 (fun _ => True) (.slice pp ln cl) x.l ∧ Ext w wb1 ∧ BlkX wb1 w1.heap.size x (.slice pp ln cl)) := ⟨HL.out.1.ext E1, HL.out.2.1.trans E1, HL.out.2.2.ext E1⟩
 obtain ⟨qz, ⟨k0, k1, k2, k3, k4, k5, k6, k7, k8, k9, k10, k11, k12⟩, gz⟩ := HL.out.2.2
 clear E1 HU1 gz qz
 go_wp2_with fail
 refine (cb _ pp ln cl HL.out.1).mono ?_
 rintro e wa2 ⟨p2, l2, c2, rfl, L2, E2⟩
 replace HL : Hid (IsL wa2 (fun _ => True) (.slice pp ln cl) x.l ∧ Ext w wa2 ∧ BlkX wa2 w1.heap.size x (.slice pp ln cl)) := ⟨HL.out.1.ext E2, HL.out.2.1.trans E2, HL.out.2.2.ext E2⟩
 have HU2 : Hid (IsL wa2 (fun _ => True) (.slice p2 l2 c2) v.l) := L2.mono (fun _ _ _ => trivial)
 clear L2 E2
 unfold aggX
 go_wp2_with fail
 refine (s2 _ p2 l2 c2 HU2.out).mono ?_
 rintro e wb2 ⟨rfl, E2⟩
 replace HL : Hid (IsL wb2 (fun _ => True) (.slice pp ln cl) x.l ∧ Ext w wb2 ∧ BlkX wb2 w1.heap.size x (.slice pp ln cl)) := ⟨HL.out.1.ext E2, HL.out.2.1.trans E2, HL.out.2.2.ext E2⟩
 obtain ⟨qz, ⟨k0, k1, k2, k3, k4, k5, k6, k7, k8, k9, k10, k11, k12⟩, gz⟩ := HL.out.2.2
 clear E2 HU2 gz qz
 go_wp2_with fail
 go_ret
 exact ⟨rfl, HL.out.2.1⟩

open Go.RowKit
set_option maxHeartbeats 2000000

theorem well_mpT (g : T → T) (hg : ∀ t : T, t.k = 6 ∨ t.k = 7 ∨ t.k = 8 → g t = t) (hl : ∀ n t, prB t.k = false → argT (n + 1) t = true → argT (n + 1) (g t) = true ∧ (wellT (n + 1) t = true → wellT (n + 1) (g t) = true)) (n : Nat) : ∀ t, argT n t = true → argT n (mpT g n t) = true ∧ (wellT n t = true → wellT n (mpT g n t) = true) := by
 induction n with
 | zero => intro t h; exact ⟨h, id⟩
 | succ n ih =>
   intro t h
   by_cases hp : prB t.k = true
   · have hk : t.k = 6 ∨ t.k = 7 ∨ t.k = 8 := by simpa [prB] using hp
     have e1 : mpT g (n + 1) t = t.wL (t.l.map (mpT g n)) := mpT_node _ hg n t hk
     have hw : wellT (n + 1) t = true := by unfold argT at h; rwa [if_neg (by omega)] at h
     have hw2 : wellT (n + 1) (t.wL (t.l.map (mpT g n))) = true := by
       have h1 : (t.wL (t.l.map (mpT g n))).k = t.k := rfl
       have h2 : (t.wL (t.l.map (mpT g n))).l = t.l.map (mpT g n) := rfl
       have h3 : (t.wL (t.l.map (mpT g n))).s = t.s := rfl
       rw [wellT] at hw ⊢
       rw [h1, h2, h3]
       rw [if_neg (by omega), if_neg (by omega), if_neg (by omega), if_neg (by omega), if_neg (by omega)] at hw ⊢
       rcases hk with k | k | k
       · rw [if_pos k] at hw ⊢
         simp only [Bool.and_eq_true, List.length_map, List.all_eq_true, List.mem_map] at hw ⊢
         refine ⟨hw.1, ?_⟩
         rintro _ ⟨x, hx, rfl⟩
         exact (ih x (wa_arg (hw.2 x hx))).2 (hw.2 x hx)
       · rw [if_neg (by omega), if_pos k] at hw ⊢
         simp only [Bool.and_eq_true, List.length_map, List.all_eq_true, List.mem_map] at hw ⊢
         refine ⟨hw.1, ?_⟩
         rintro _ ⟨x, hx, rfl⟩
         exact (ih x (wa_arg (hw.2 x hx))).2 (hw.2 x hx)
       · rw [if_neg (by omega), if_neg (by omega), if_pos k] at hw ⊢
         simp only [Bool.and_eq_true, List.length_map, List.all_eq_true, List.mem_map] at hw ⊢
         refine ⟨hw.1, ?_⟩
         rintro _ ⟨x, hx, rfl⟩
         exact (ih x (hw.2 x hx)).1
     rw [e1]
     refine ⟨?_, fun _ => hw2⟩
     unfold argT
     rw [if_neg (by show ¬ t.k = 5; omega)]
     exact hw2
   · have hp : prB t.k = false := by simpa using hp
     rw [mpT_leaf _ n t hp]
     exact hl n t hp h
/-- What rows become is on the sheet, or nothing. -/
structure Good (o : Int → Int) (b : Int → Int → Int × Int × Bool) : Prop where
 one : ∀ r, 1 ≤ r → r ≤ 1000 → o r ≠ 0 → 1 ≤ o r ∧ o r ≤ 1000
 both : ∀ lo hi, 1 ≤ lo → lo ≤ hi → hi ≤ 1000 → (b lo hi).2.2 = true → 1 ≤ (b lo hi).1 ∧ (b lo hi).1 ≤ (b lo hi).2.1 ∧ (b lo hi).2.1 ≤ 1000
theorem inR_eq (a r : Int) (h1 : 1 ≤ r) (h2 : r ≤ 1000) : inR a r = if r < a then r else if r = 1000 then 0 else r + 1 := by
 unfold inR; rw [if_neg (by omega)]
theorem good_in (a : Int) : Good (inR a) (inV a) := by
 refine ⟨fun r h1 h2 h0 => ?_, fun lo hi h1 h2 h3 h => ?_⟩
 · rw [inR_eq a r h1 h2] at h0 ⊢
   by_cases q2 : r < a
   · rw [if_pos q2]; omega
   · rw [if_neg q2] at h0 ⊢
     by_cases q3 : r = 1000
     · rw [if_pos q3] at h0; exact absurd rfl h0
     · rw [if_neg q3]; omega
 · unfold inV at h ⊢
   by_cases h0 : inR a lo = 0
   · rw [if_pos h0] at h; cases h
   · rw [if_neg h0]
     show 1 ≤ inR a lo ∧ inR a lo ≤ (if inR a hi = 0 then 1000 else inR a hi) ∧ (if inR a hi = 0 then 1000 else inR a hi) ≤ 1000
     rw [inR_eq a lo h1 (by omega)] at h0 ⊢
     rw [inR_eq a hi (by omega) h3]
     by_cases l1 : lo < a
     · rw [if_pos l1]
       by_cases l2 : hi < a
       · rw [if_pos l2, if_neg (by omega)]; omega
       · rw [if_neg l2]
         by_cases l3 : hi = 1000
         · rw [if_pos l3, if_pos rfl]; omega
         · rw [if_neg l3, if_neg (by omega)]; omega
     · rw [if_neg l1] at h0 ⊢
       by_cases l4 : lo = 1000
       · rw [if_pos l4] at h0; exact absurd rfl h0
       · rw [if_neg l4, if_neg (show ¬ hi < a by omega)]
         by_cases l3 : hi = 1000
         · rw [if_pos l3, if_pos rfl]; omega
         · rw [if_neg l3, if_neg (by omega)]; omega
theorem good_de (a : Int) (ha : 1 ≤ a) : Good (deR a) (deV a) := by
 refine ⟨fun r h1 h2 h0 => ?_, fun lo hi h1 h2 h3 h => ?_⟩
 · unfold deR at h0 ⊢
   split <;> rename_i q1
   · rw [if_pos q1] at h0; exact absurd rfl h0
   · split <;> omega
 · unfold deV at h ⊢
   split at h
   · cases h
   · rename_i h0
     rw [if_neg h0]
     show 1 ≤ (if a < lo then lo - 1 else lo) ∧ (if a < lo then lo - 1 else lo) ≤ (if a ≤ hi then hi - 1 else hi) ∧ (if a ≤ hi then hi - 1 else hi) ≤ 1000
     split <;> split <;> omega
theorem inB_rows {r c x : Int} (h : inB r c = true) (h1 : 1 ≤ x) (h2 : x ≤ 1000) : inB x c = true := by
 unfold inB at h ⊢
 simp at h ⊢
 omega
theorem inB_row {r c : Int} (h : inB r c = true) : 1 ≤ r ∧ r ≤ 1000 := by
 unfold inB at h
 simp at h
 omega
theorem well_ch {o : Int → Int} {b : Int → Int → Int × Int × Bool} (hG : Good o b) (n : Nat) (t : T) (h : argT n t = true) : argT n (mpT (chE o b) n t) = true ∧ (wellT n t = true → wellT n (mpT (chE o b) n t) = true) := by
 refine well_mpT _ (chE_node o b) (fun n t hp h => ?_) n t h
 have hE : wellT (n + 1) (tErr 1) = true := wa_err n
 by_cases k4 : t.k = 4
 · have hw : wellT (n + 1) t = true := by unfold argT at h; rwa [if_neg (by omega)] at h
   have hin : inB t.r.1 t.r.2.1 = true := by
     rw [wellT, k4] at hw; simpa using hw
   unfold chE
   rw [if_pos k4]
   unfold chR
   split
   · exact ⟨wa_arg hE, fun _ => hE⟩
   · rename_i h0
     have h1 := hG.one _ (inB_row hin).1 (inB_row hin).2 h0
     have hw2 : wellT (n + 1) (t.wR (o t.r.1, t.r.2)) = true := by
       rw [wellT, show (t.wR (o t.r.1, t.r.2)).k = 4 from k4, show (t.wR (o t.r.1, t.r.2)).r = (o t.r.1, t.r.2) from rfl]
       simpa using inB_rows hin h1.1 h1.2
     exact ⟨wa_arg hw2, fun _ => hw2⟩
 · by_cases k5 : t.k = 5
   · have hin : inB t.r.1 t.r.2.1 = true ∧ inB t.q.1 t.q.2.1 = true := by
       unfold argT at h; rw [if_pos k5] at h; simpa using h
     refine ⟨?_, fun hw => absurd k5 (wa_k5 hw)⟩
     unfold chE
     rw [if_neg k4, if_pos k5]
     have r1 := inB_row hin.1
     have r2 := inB_row hin.2
     unfold chA
     split
     · rename_i hle
       split
       · rename_i hb
         obtain ⟨g1, g2, g3⟩ := hG.both _ _ r1.1 hle r2.2 hb
         unfold argT
         rw [if_pos (by exact k5)]
         show (inB (b t.r.1 t.q.1).1 t.r.2.1 && inB (b t.r.1 t.q.1).2.1 t.q.2.1) = true
         rw [inB_rows hin.1 (by omega) (by omega), inB_rows hin.2 (by omega) (by omega)]; rfl
       · exact wa_arg hE
     · rename_i hle
       split
       · rename_i hb
         obtain ⟨g1, g2, g3⟩ := hG.both _ _ r2.1 (by omega) r1.2 hb
         unfold argT
         rw [if_pos (by exact k5)]
         show (inB (b t.q.1 t.r.1).2.1 t.r.2.1 && inB (b t.q.1 t.r.1).1 t.q.2.1) = true
         rw [inB_rows hin.1 (by omega) (by omega), inB_rows hin.2 (by omega) (by omega)]; rfl
       · exact wa_arg hE
   · unfold chE
     rw [if_neg k4, if_neg k5]
     exact ⟨h, id⟩
/-- There and back. -/
theorem row_in_de (a r : Int) (h1 : 1 ≤ r) (h2 : r < 1000) : inR a r ≠ 0 ∧ deR a (inR a r) = r := by
 unfold inR
 rw [if_neg (by omega)]
 split <;> rename_i q
 · unfold deR; rw [if_neg (by omega), if_pos q]; exact ⟨by omega, rfl⟩
 · rw [if_neg (by omega)]
   unfold deR; rw [if_neg (by omega), if_neg (by omega)]; exact ⟨by omega, by omega⟩
theorem rows_in_de (a lo hi : Int) (ha : 1 ≤ a) (h1 : 1 ≤ lo) (h3 : lo ≤ hi) (h2 : hi < 1000) : (inV a lo hi).2.2 = true ∧ (inV a lo hi).1 ≤ (inV a lo hi).2.1 ∧ deV a (inV a lo hi).1 (inV a lo hi).2.1 = (lo, hi, true) := by
 have e1 : inR a lo = if lo < a then lo else lo + 1 := by
   unfold inR; rw [if_neg (by omega)]; split; rfl; rw [if_neg (by omega)]
 have e2 : inR a hi = if hi < a then hi else hi + 1 := by
   unfold inR; rw [if_neg (by omega)]; split; rfl; rw [if_neg (by omega)]
 have n1 : inR a lo ≠ 0 := by rw [e1]; split <;> omega
 have n2 : inR a hi ≠ 0 := by rw [e2]; split <;> omega
 have e3 : inV a lo hi = (inR a lo, inR a hi, true) := by unfold inV; rw [if_neg n1, if_neg n2]
 rw [e3, e1, e2]
 refine ⟨rfl, ?_, ?_⟩
 · show (if lo < a then lo else lo + 1) ≤ (if hi < a then hi else hi + 1)
   split <;> split <;> omega
 · show deV a (if lo < a then lo else lo + 1) (if hi < a then hi else hi + 1) = (lo, hi, true)
   unfold deV
   by_cases l1 : lo < a
   · by_cases l2 : hi < a
     · rw [if_pos l1, if_pos l2, if_neg (by omega), if_neg (by omega), if_neg (by omega)]
     · rw [if_pos l1, if_neg l2, if_neg (by omega), if_neg (by omega), if_pos (by omega), show hi + 1 - 1 = hi by omega]
   · rw [if_neg l1, if_neg (show ¬ hi < a by omega), if_neg (by omega), if_pos (by omega), if_pos (by omega), show lo + 1 - 1 = lo by omega, show hi + 1 - 1 = hi by omega]
theorem refs_part {n : Nat} {t x : T} {q : Int × Int × Int × Int} (hk : t.k = 6 ∨ t.k = 7 ∨ t.k = 8) (hx : x ∈ t.l) (hq : q ∈ refsT n x) : q ∈ refsT (n + 1) t := by
 rw [refsT, if_neg (by omega), if_neg (by omega), if_pos (by simpa [prB] using hk)]
 exact List.mem_flatten.2 ⟨refsT n x, List.mem_map.2 ⟨x, hx, rfl⟩, hq⟩
theorem args_of {n : Nat} {t : T} (h : argT (n + 1) t = true) (hp : t.k = 6 ∨ t.k = 7 ∨ t.k = 8) : ∀ x ∈ t.l, argT n x = true := by
 unfold argT at h
 rw [if_neg (by omega), wellT, if_neg (by omega), if_neg (by omega), if_neg (by omega), if_neg (by omega), if_neg (by omega)] at h
 intro x hx
 rcases hp with k | k | k
 · rw [if_pos k] at h
   simp only [Bool.and_eq_true, List.all_eq_true] at h
   exact wa_arg (h.2 x hx)
 · rw [if_neg (by omega), if_pos k] at h
   simp only [Bool.and_eq_true, List.all_eq_true] at h
   exact wa_arg (h.2 x hx)
 · rw [if_neg (by omega), if_neg (by omega), if_pos k] at h
   simp only [Bool.and_eq_true, List.all_eq_true] at h
   exact h.2 x hx
theorem rcT_row (a b : Rf) (h1 : inB a.1 a.2.1 = true) (h2 : inB b.1 b.2.1 = true) : rcT a b = (mnI a.1 b.1, mnI a.2.1 b.2.1, mxI a.1 b.1, mxI a.2.1 b.2.1) := by
 unfold rcT; rw [if_pos (by unfold rcB; rw [h1, h2]; rfl)]
theorem move_back (a : Int) (ha : 1 ≤ a) (n : Nat) : ∀ t : T, argT n t = true → (∀ q ∈ refsT n t, q.2.2.1 ≠ 1000) → mpT (chE (deR a) (deV a)) n (mpT (chE (inR a) (inV a)) n t) = t := by
 induction n with
 | zero => intro t _ _; rfl
 | succ n ih =>
   intro t h hq
   by_cases hp : t.k = 6 ∨ t.k = 7 ∨ t.k = 8
   · rw [mpT_node _ (chE_node (inR a) (inV a)) n t hp, mpT_node _ (chE_node (deR a) (deV a)) n _ (by exact hp)]
     show (t.wL ((t.l.map (mpT (chE (inR a) (inV a)) n)).map (mpT (chE (deR a) (deV a)) n))) = t
     rw [List.map_map]
     have e : t.l.map (mpT (chE (deR a) (deV a)) n ∘ mpT (chE (inR a) (inV a)) n) = t.l :=
       (List.map_congr_left (fun x hx => ih x (args_of h hp x hx) (fun q hq2 => hq q (refs_part hp hx hq2)))).trans (List.map_id _)
     rw [e, wL_self]
   · have hpf : prB t.k = false := by simpa [prB] using hp
     rw [mpT_leaf _ n t hpf]
     by_cases k4 : t.k = 4
     · have hw : wellT (n + 1) t = true := by unfold argT at h; rwa [if_neg (by omega)] at h
       have hin : inB t.r.1 t.r.2.1 = true := by
         rw [wellT, k4] at hw; simpa using hw
       have hne : t.r.1 ≠ 1000 := by
         have := hq (rcT t.r t.r) (by rw [refsT, if_pos k4]; exact List.mem_singleton.2 rfl)
         rw [rcT_row _ _ hin hin] at this
         unfold mxI at this
         simpa using this
       have hr := inB_row hin
       obtain ⟨g1, g2⟩ := row_in_de a t.r.1 hr.1 (by omega)
       have e1 : chE (inR a) (inV a) t = t.wR (inR a t.r.1, t.r.2) := by unfold chE chR; rw [if_pos k4, if_neg g1]
       rw [e1, mpT_leaf _ n _ (by exact hpf)]
       unfold chE chR
       rw [if_pos (by exact k4)]
       show (if deR a (inR a t.r.1) = 0 then tErr 1 else (t.wR (inR a t.r.1, t.r.2)).wR (deR a (inR a t.r.1), t.r.2)) = t
       rw [g2, if_neg (by omega)]
       cases t; rfl
     · by_cases k5 : t.k = 5
       · have hin : inB t.r.1 t.r.2.1 = true ∧ inB t.q.1 t.q.2.1 = true := by
           unfold argT at h; rw [if_pos k5] at h; simpa using h
         have r1 := inB_row hin.1
         have r2 := inB_row hin.2
         have hne : mxI t.r.1 t.q.1 ≠ 1000 := by
           have := hq (rcT t.r t.q) (by rw [refsT, if_neg k4, if_pos k5]; exact List.mem_singleton.2 rfl)
           rw [rcT_row _ _ hin.1 hin.2] at this
           exact this
         unfold mxI at hne
         by_cases hle : t.r.1 ≤ t.q.1
         · obtain ⟨g1, g2, g3⟩ := rows_in_de a t.r.1 t.q.1 ha r1.1 hle (by split at hne <;> omega)
           have e1 : chE (inR a) (inV a) t = t.wRQ ((inV a t.r.1 t.q.1).1, t.r.2) ((inV a t.r.1 t.q.1).2.1, t.q.2) := by unfold chE chA; rw [if_neg k4, if_pos k5, if_pos hle, g1]; rfl
           rw [e1, mpT_leaf _ n _ (by exact hpf)]
           unfold chE chA
           rw [if_neg (by exact k4), if_pos (by exact k5), if_pos (by exact g2)]
           show (if (deV a (inV a t.r.1 t.q.1).1 (inV a t.r.1 t.q.1).2.1).2.2 = true then (t.wRQ ((inV a t.r.1 t.q.1).1, t.r.2) ((inV a t.r.1 t.q.1).2.1, t.q.2)).wRQ ((deV a (inV a t.r.1 t.q.1).1 (inV a t.r.1 t.q.1).2.1).1, t.r.2) ((deV a (inV a t.r.1 t.q.1).1 (inV a t.r.1 t.q.1).2.1).2.1, t.q.2) else tErr 1) = t
           rw [g3]
           cases t; rfl
         · obtain ⟨g1, g2, g3⟩ := rows_in_de a t.q.1 t.r.1 ha r2.1 (by omega) (by split at hne <;> omega)
           have hlt : (inV a t.q.1 t.r.1).1 < (inV a t.q.1 t.r.1).2.1 := by
             rcases Int.lt_or_eq_of_le g2 with h | h
             · exact h
             · exfalso
               rw [h] at g3
               have q1 : (deV a (inV a t.q.1 t.r.1).2.1 (inV a t.q.1 t.r.1).2.1).2.2 = true := by rw [g3]
               have q2 : (deV a (inV a t.q.1 t.r.1).2.1 (inV a t.q.1 t.r.1).2.1).1 = t.q.1 := by rw [g3]
               have q3 : (deV a (inV a t.q.1 t.r.1).2.1 (inV a t.q.1 t.r.1).2.1).2.1 = t.r.1 := by rw [g3]
               generalize (inV a t.q.1 t.r.1).2.1 = x at q1 q2 q3
               unfold deV at q1 q2 q3
               split at q1
               · cases q1
               · rename_i hx
                 rw [if_neg hx] at q2 q3
                 simp only at q2 q3
                 split at q2 <;> split at q3 <;> omega
           have e1 : chE (inR a) (inV a) t = t.wRQ ((inV a t.q.1 t.r.1).2.1, t.r.2) ((inV a t.q.1 t.r.1).1, t.q.2) := by unfold chE chA; rw [if_neg k4, if_pos k5, if_neg hle, g1]; rfl
           rw [e1, mpT_leaf _ n _ (by exact hpf)]
           unfold chE chA
           rw [if_neg (by exact k4), if_pos (by exact k5), if_neg (by show ¬ (inV a t.q.1 t.r.1).2.1 ≤ (inV a t.q.1 t.r.1).1; omega)]
           show (if (deV a (inV a t.q.1 t.r.1).1 (inV a t.q.1 t.r.1).2.1).2.2 = true then (t.wRQ ((inV a t.q.1 t.r.1).2.1, t.r.2) ((inV a t.q.1 t.r.1).1, t.q.2)).wRQ ((deV a (inV a t.q.1 t.r.1).1 (inV a t.q.1 t.r.1).2.1).2.1, t.r.2) ((deV a (inV a t.q.1 t.r.1).1 (inV a t.q.1 t.r.1).2.1).1, t.q.2) else tErr 1) = t
           rw [g3]
           cases t; rfl
       · have e1 : ∀ o b, chE o b t = t := fun o b => by unfold chE; rw [if_neg k4, if_neg k5]
         rw [e1, mpT_leaf _ n t hpf, e1]
end Go.Proofs.Ytcggiljlilbdfaa
