/-
 The document's Show: calls, and every tree.
 Small trees of numbers and signs: that they are what a tree is to be. Plain mathematics: no program in sight.
 The law's lives of layer 20: four formulas, filled down, are a run.
 Arguments: what is read as a list of values, or of arguments, is one.
 Values in a list of the call's own; how long a list of values can be that comes in.
 From a list that lays the errors' names to their cells. No condition.
 The world in which the listed variables lie as the program's text lays them, and what a world that meets the list gives the walks. No condition.
-/
import Derived.Test.YtjhmbkdkjgjoaaaDoorX30
import Derived.Test.YtjhmbkdkjgjoaaaDoorX9
import Derived.Test.YtjhmbkdkjgjoaaaDoorX22
import Derived.Test.YtjhmbkdkjgjoaaaDoorX26
import Derived.Test.YtjhmbkdkjgjoaaaDoorX6
import Derived.Lib.SmallJoins
import Derived.Deep.Slices
import Derived.Test.YtjhmbkdkjgjoaaaDoorX8
import Derived.SizedLaws
import Derived.Test.YtjhmbkdkjgjoaaaDoorX5
import Derived.Test.YtjhmbkdkjgjoaaaDoorRows
import Derived.ProofKit
import Derived.OpenShut
import Derived.Deep.DeepHandedRow
import Derived.Stop.LaidErr
import Derived.Lib.LaidTab
import Derived.MakeChecks
namespace Go.Proofs.YtjhmbkdkjgjoaaaDoor
open Go.RowKit
set_option maxHeartbeats 6000000

theorem sum_take_le2 (f : T → Nat) (ls : List T) (j : Nat) (x : T) (h : ls[j]? = some x) : ((ls.take j).map f).sum + f x ≤ (ls.map f).sum := by
 have e : ls = ls.take j ++ x :: ls.drop (j + 1) := by
   obtain ⟨hj, hx⟩ := List.getElem?_eq_some_iff.1 h
   rw [← hx, ← List.drop_eq_getElem_cons hj, List.take_append_drop]
 have : (ls.map f).sum = ((ls.take j).map f).sum + (f x + ((ls.drop (j + 1)).map f).sum) := by
   conv => lhs; rw [e]
   simp
 omega
set_option maxRecDepth 100000 in
theorem show_call (n : Nat) (t : T) (hk : t.k = 8) (_hW : Wf t) (hl : t.l.length ≤ 100000) (hx : ∀ x ∈ t.l, ShC n x) (hlen : t.s.length + (t.l.map (fun x => (shT n x).length + 1)).sum + 10 ≤ 80000000) : ShC (n + 1) t := by
 intro W P pp ln cl hL
 have e0 : (t.k == 0) = false := by rw [hk]; rfl
 have e1 : (t.k == 1) = false := by rw [hk]; rfl
 have e2 : (t.k == 2) = false := by rw [hk]; rfl
 have e3 : (t.k == 3) = false := by rw [hk]; rfl
 have e4 : (t.k == 4) = false := by rw [hk]; rfl
 have e5 : (t.k == 5) = false := by rw [hk]; rfl
 have e6 : (t.k == 6) = false := by rw [hk]; rfl
 have e7 : (t.k == 7) = false := by rw [hk]; rfl
 have HX : Hid (shT (n + 1) t = t.s ++ 40 :: (joinL (t.l.map (shT n)) ++ [41])) := by show _ = _; rw [shT]; simp [hk]
 have hln : ln = t.l.length := by
   obtain ⟨p, c, h1, _⟩ := hL.form
   cases h1; rfl
 have hl2 : ln ≤ 100000 := by omega
 have HI : Hid (IsL W P (.slice pp ln cl) t.l) := hL
 have HLN : Hid (ln = t.l.length) := hln
 have HXX : Hid (∀ x ∈ t.l, ShC n x) := hx
 have HZ : Hid (t.s.length + (t.l.map (fun x => (shT n x).length + 1)).sum + 10 ≤ 80000000) := hlen
 have HQt : Hid ((bs t.s).data.toList = t.s) := rfl
 have hqs : (bs t.s).size ≤ 80000000 := by rw [bs_size]; omega
 have s1 : (⟨#[40]⟩ : ByteArray).size = 1 := rfl
 have s2 : (⟨#[41]⟩ : ByteArray).size = 1 := rfl
 have s3 : (⟨#[44]⟩ : ByteArray).size = 1 := rfl
 clear hL hk hl hx hlen hln
 go_enter Tryd.func25, Tryd.ntmps25
 go_wp2_with fail
 go_loopw [8, 9] (fun qv iv wr => ∃ (j : Nat) (q : ByteArray), j ≤ ln ∧ qv = .string q ∧ iv = .int .i64 (j : Int) ∧ q.data.toList = t.s ++ 40 :: joinL ((t.l.take j).map (shT n)) ∧ BlkX wr W.heap.size t (.slice pp ln cl) ∧ Ext W wr) (fun _ iv _ => ln - (intOf iv).toNat)
 case atStart => exact ⟨0, _, Nat.zero_le _, rfl, rfl, by rw [app_list, HQt.out]; simp [joinL], blk13_top rfl (Ext.refl _), (Ext.refl _).alloc _⟩
 case round =>
   obtain ⟨j, q, hj, rfl, rfl, hq, hB, hE⟩ := hrel
   have HE : Hid (Ext W wr ∧ BlkX wr W.heap.size t (.slice pp ln cl)) := ⟨hE, hB⟩
   have HQ : Hid (q.data.toList = t.s ++ 40 :: joinL ((t.l.take j).map (shT n))) := hq
   have HLJ : Hid (q.size ≤ t.s.length + 1 + ((t.l.take j).map (fun x => (shT n x).length + 1)).sum) := by
     show _ ≤ _
     rw [← size_list, hq]
     have := joinL_len ((t.l.take j).map (shT n))
     rw [List.map_map] at this
     simp only [List.length_append, List.length_cons]
     have e : (List.map ((fun l => l.length + 1) ∘ shT n) (t.l.take j)).sum = ((t.l.take j).map (fun x => (shT n x).length + 1)).sum := rfl
     omega
   obtain ⟨qz, ⟨k0, k1, k2, k3, k4, k5, k6, k7, k8, k9, k10, k11, k12⟩, gz⟩ := hB
   clear hq hE gz
   by_cases hlt : j < ln
   · have hltI : (j : Int) < (ln : Int) := by omega
     have hI := HI.out.ext HE.out.1
     obtain ⟨gb, off, x, lv, hpp, hx1, hA1, hgb, hA2, hLx, hce⟩ := hI.at (i := j) (by rw [← HLN.out]; exact hlt)
     clear hA1 hA2
     subst hpp
     obtain ⟨pp, cl', hlv, hcl⟩ := hLx.form
     obtain ⟨ln', hln'⟩ : ∃ ln', x.l.length = ln' := ⟨_, rfl⟩
     rw [hln'] at hlv
     subst hlv
     have HX1 : Hid (t.l[j]? = some x) := hx1
     have HC : Hid (∀ V, Ext wr V → Calls Tryd.prog 25 #[.agg #[.int .i64 x.k, .int .i64 x.n, .string (bs x.s), .int .i64 x.e, .int .i64 x.r.1, .int .i64 x.r.2.1, .bool x.r.2.2.1, .bool x.r.2.2.2, .int .i64 x.q.1, .int .i64 x.q.2.1, .bool x.q.2.2.1, .bool x.q.2.2.2, .slice pp ln' cl']] V fun e w' => e = .returned (.string (bs (shT n x))) ∧ Ext V w') := fun V e => HXX.out x (List.mem_of_getElem? hx1) V P pp ln' cl' (hLx.ext e)
     have hsz : q.size + (shT n x).length + 1 ≤ t.s.length + 1 + (t.l.map (fun x => (shT n x).length + 1)).sum := by
       have h1 := HLJ.out
       have h2 := sum_take_le2 (fun x => (shT n x).length + 1) t.l j x hx1
       omega
     have hsz2 : q.size + (shT n x).length + 1 ≤ 80000000 := by have := HZ.out; omega
     have HQx : Hid ((bs (shT n x)).data.toList = shT n x) := rfl
     have hqx : q.size + (bs (shT n x)).size + 1 ≤ 80000000 := by rw [bs_size]; exact hsz2
     clear hsz hsz2
     generalize bs (shT n x) = qx at *
     have c0 : wr.cell? ⟨gb, off + j * 13, none⟩ = some (.int .i64 x.k) := hce 0 _ rfl
     have c1 : wr.cell? ⟨gb, off + j * 13 + 1, none⟩ = some (.int .i64 x.n) := hce 1 _ rfl
     have c2 : wr.cell? ⟨gb, off + j * 13 + 2, none⟩ = some (.string (bs x.s)) := hce 2 _ rfl
     have c3 : wr.cell? ⟨gb, off + j * 13 + 3, none⟩ = some (.int .i64 x.e) := hce 3 _ rfl
     have c4 : wr.cell? ⟨gb, off + j * 13 + 4, none⟩ = some (.int .i64 x.r.1) := hce 4 _ rfl
     have c5 : wr.cell? ⟨gb, off + j * 13 + 5, none⟩ = some (.int .i64 x.r.2.1) := hce 5 _ rfl
     have c6 : wr.cell? ⟨gb, off + j * 13 + 6, none⟩ = some (.bool x.r.2.2.1) := hce 6 _ rfl
     have c7 : wr.cell? ⟨gb, off + j * 13 + 7, none⟩ = some (.bool x.r.2.2.2) := hce 7 _ rfl
     have c8 : wr.cell? ⟨gb, off + j * 13 + 8, none⟩ = some (.int .i64 x.q.1) := hce 8 _ rfl
     have c9 : wr.cell? ⟨gb, off + j * 13 + 9, none⟩ = some (.int .i64 x.q.2.1) := hce 9 _ rfl
     have c10 : wr.cell? ⟨gb, off + j * 13 + 10, none⟩ = some (.bool x.q.2.2.1) := hce 10 _ rfl
     have c11 : wr.cell? ⟨gb, off + j * 13 + 11, none⟩ = some (.bool x.q.2.2.2) := hce 11 _ rfl
     have c12 : wr.cell? ⟨gb, off + j * 13 + 12, none⟩ = some (.slice pp ln' cl') := hce 12 _ rfl
     clear hI hx1 hLx hce hcl hln'
     by_cases h0 : j = 0
     · have i0 : ¬ 0 < (j : Int) := by omega
       have HJ : Hid (joinL ((t.l.take j).map (shT n) ++ [shT n x]) = joinL ((t.l.take j).map (shT n)) ++ shT n x) := by show _ = _; rw [h0]; simp [joinL]
       clear h0
       go_wp2_with fail
       refine (HC.out _ (Ext.refl _)).mono ?_
       rintro e w1 ⟨rfl, E1⟩
       have HE1 : Hid (Ext W w1 ∧ BlkX w1 W.heap.size t (.slice (some ⟨gb, off, none⟩) ln cl)) := ⟨HE.out.1.trans E1, HE.out.2.ext E1⟩
       clear E1 k0 k1 k2 k3 k4 k5 k6 k7 k8 k9 k10 k11 k12 c0 c1 c2 c3 c4 c5 c6 c7 c8 c9 c10 c11 c12
       go_wp2_with fail
       go_roundw
       case rel =>
         refine ⟨j + 1, _, by omega, rfl, by go_num, ?_, HE1.out.2, HE1.out.1⟩
         rw [List.take_add_one, HX1.out]
         show _ = t.s ++ 40 :: joinL ((t.l.take j ++ [x]).map (shT n))
         rw [List.map_append]
         show _ = t.s ++ 40 :: joinL ((t.l.take j).map (shT n) ++ [shT n x])
         rw [HJ.out]
         simp only [app_list, HQ.out, HQx.out]
         simp
       case measure => show ln - ((j : Int) + 1).toNat < ln - ((j : Int)).toNat; omega
     · have i0 : 0 < (j : Int) := by omega
       have HJ : Hid (joinL ((t.l.take j).map (shT n) ++ [shT n x]) = joinL ((t.l.take j).map (shT n)) ++ 44 :: shT n x) := by
         refine joinL_snoc _ _ ?_
         intro h
         have h2 := congrArg List.length h
         rw [List.length_map, List.length_take] at h2
         have := HLN.out
         simp only [List.length_nil] at h2
         omega
       have s4 : (q ++ (⟨#[44]⟩ : ByteArray)).size = q.size + 1 := by rw [ByteArray.size_append, s3]
       clear h0
       go_wp2_with fail
       refine (HC.out _ (Ext.refl _)).mono ?_
       rintro e w1 ⟨rfl, E1⟩
       have HE1 : Hid (Ext W w1 ∧ BlkX w1 W.heap.size t (.slice (some ⟨gb, off, none⟩) ln cl)) := ⟨HE.out.1.trans E1, HE.out.2.ext E1⟩
       clear E1 k0 k1 k2 k3 k4 k5 k6 k7 k8 k9 k10 k11 k12 c0 c1 c2 c3 c4 c5 c6 c7 c8 c9 c10 c11 c12
       go_wp2_with fail
       go_roundw
       case rel =>
         refine ⟨j + 1, _, by omega, rfl, by go_num, ?_, HE1.out.2, HE1.out.1⟩
         rw [List.take_add_one, HX1.out]
         show _ = t.s ++ 40 :: joinL ((t.l.take j ++ [x]).map (shT n))
         rw [List.map_append]
         show _ = t.s ++ 40 :: joinL ((t.l.take j).map (shT n) ++ [shT n x])
         rw [HJ.out]
         simp only [app_list, HQ.out, HQx.out]
         simp
       case measure => show ln - ((j : Int) + 1).toNat < ln - ((j : Int)).toNat; omega
   · have hltI : ¬ (j : Int) < (ln : Int) := by omega
     have hjl : j = ln := by omega
     have HT2 : Hid (t.l.take j = t.l) := by show _ = _; rw [hjl, HLN.out]; exact List.take_length
     have hq2 : q.size ≤ 80000000 := by have h1 := HLJ.out; have h2 := HZ.out; rw [HT2.out] at h1; omega
     clear hlt hjl
     go_wp2_with fail
     go_ret
     exact ⟨ret_s (mkL _ _ (by rw [HX.out, app_list, HQ.out, HT2.out]; simp)), HE.out.1⟩
/-- The document writes every well made tree. -/
theorem show_any (n : Nat) : ∀ t : T, Hr n t → Wf t → (wellT n t = true ∨ t.k = 5) → szT n t ≤ 100000 → ShC n t := by
 induction n with
 | zero => intro t h; cases h
 | succ n ih =>
   intro t hr hw h hz
   by_cases k5 : t.k = 5
   · exact show_range n t k5 hw
   have h := h.resolve_right k5
   have hkids := hw
   obtain ⟨_, w1, w2, w3, w4, w5, w6, w7, w8, w9⟩ := hkids
   unfold wellT at h
   have hz2 : 1 + (t.l.map (szT n)).sum ≤ 100000 := by rw [szT] at hz; exact hz
   by_cases k0 : t.k = 0
   · exact show_num n t k0 hw
   by_cases k1 : t.k = 1
   · exact show_text n t k1 hw (by simpa [k1] using h)
   by_cases k2 : t.k = 2
   · exact show_bool n t k2 hw (by simpa [k2] using h)
   by_cases k3 : t.k = 3
   · exact show_err n t k3 hw (by simpa [k3] using h)
   by_cases k4 : t.k = 4
   · exact show_ref n t k4 hw
   have hn0 : ∀ x ∈ t.l, (wellT n x = true ∨ x.k = 5) → ShC n x ∧ (shT n x).length + 1 ≤ 701 * szT n x := by
     intro x hx hx1
     have := sz_mem (n := n) hx
     exact ⟨ih x (hr.2 x hx) (w9 x hx) hx1 (by omega), sh_len _ x (w9 x hx) hx1⟩
   by_cases k6 : t.k = 6
   · simp only [k6] at h
     simp at h
     obtain ⟨h1, h2⟩ := h
     match hl : t.l, h1 with
     | [x], _ =>
       have hx := hn0 x (by rw [hl]; simp) (.inl (h2 x (by rw [hl]; simp)))
       refine show_neg n t k6 hw x hl hx.1 ?_
       rw [hl] at hz2
       simp at hz2
       have := hx.2
       omega
   by_cases k7 : t.k = 7
   · simp only [k7] at h
     simp at h
     obtain ⟨⟨h0, h1⟩, h2⟩ := h
     match hl : t.l, h1 with
     | [x, y], _ =>
       have hx := hn0 x (by rw [hl]; simp) (.inl (h2 x (by rw [hl]; simp)))
       have hy := hn0 y (by rw [hl]; simp) (.inl (h2 y (by rw [hl]; simp)))
       refine show_bin n t k7 hw x y hl hx.1 hy.1 ?_
       rw [hl] at hz2
       simp at hz2
       have := hx.2
       have := hy.2
       have := bnd_len h0
       omega
   by_cases k8 : t.k = 8
   · simp only [k8] at h
     simp at h
     obtain ⟨⟨⟨h1, _⟩, h3⟩, h2⟩ := h
     have hx : ∀ x ∈ t.l, wellT n x = true ∨ x.k = 5 := by
       intro x hx
       have := h2 x hx
       by_cases k : x.k = 5
       · exact .inr k
       · exact .inl (by simpa [k] using this)
     refine show_call n t k8 hw hr.1 (fun x hx1 => (hn0 x hx1 (hx x hx1)).1) ?_
     have e1 : (t.l.map (fun x => (shT n x).length + 1)).sum ≤ (t.l.map (fun x => 701 * szT n x)).sum := psum_le fun x hx1 => (hn0 x hx1 (hx x hx1)).2
     rw [sum_mul] at e1
     have := kno_len h1
     omega
   · simp [k0, k1, k2, k3, k4, k6, k7, k8] at h

open Go.RowKit
set_option maxHeartbeats 2000000

theorem i64_s (a : Int) (h : -1000000 ≤ a ∧ a ≤ 1000000) : I64 a := ⟨by omega, by omega⟩
theorem wf0 (t : T) (h : t.l = []) (h1 : I64 t.k) (h2 : I64 t.n) (h3 : t.s.length ≤ maxLen) (h4 : I64 t.e) (h5 : I64 t.r.1) (h6 : I64 t.r.2.1) (h7 : I64 t.q.1) (h8 : I64 t.q.2.1) : Wf t := .mk t h1 h2 h3 h4 h5 h6 h7 h8 (by rw [h]; intro x hx; cases hx)
theorem wf_num (n : Int) (h : I64 n) : Wf (tNum n) := wf0 _ rfl (i64_s 0 (by decide)) h (Nat.zero_le _) (i64_s 0 (by decide)) (i64_s 0 (by decide)) (i64_s 0 (by decide)) (i64_s 0 (by decide)) (i64_s 0 (by decide))
theorem wf_bin (s : List UInt8) (x y : T) (hs : s.length ≤ maxLen) (hx : Wf x) (hy : Wf y) : Wf (tBin s x y) := .mk _ (i64_s 7 (by decide)) (i64_s 0 (by decide)) hs (i64_s 0 (by decide)) (i64_s 0 (by decide)) (i64_s 0 (by decide)) (i64_s 0 (by decide)) (i64_s 0 (by decide)) (by
 intro z hz
 rcases List.mem_cons.1 hz with rfl | hz
 · exact hx
 · rcases List.mem_cons.1 hz with rfl | hz
   · exact hy
   · cases hz)
theorem wf_ref (r : Rf) (h1 : I64 r.1) (h2 : I64 r.2.1) : Wf (tRef r) := wf0 _ rfl (i64_s 4 (by decide)) (i64_s 0 (by decide)) (Nat.zero_le _) (i64_s 0 (by decide)) h1 h2 (i64_s 0 (by decide)) (i64_s 0 (by decide))
theorem hr_leaf (n : Nat) (t : T) (h : t.l = []) : Hr (n + 1) t := ⟨by rw [h]; decide, by rw [h]; intro x hx; cases hx⟩
theorem hr_bin (n : Nat) (s : List UInt8) (x y : T) (hx : Hr n x) (hy : Hr n y) : Hr (n + 1) (tBin s x y) := ⟨by show 2 ≤ 100000; decide, by
 intro z hz
 rcases List.mem_cons.1 hz with rfl | hz
 · exact hx
 · rcases List.mem_cons.1 hz with rfl | hz
   · exact hy
   · cases hz⟩

open Go.RowKit
set_option maxHeartbeats 6000000

/-- A cell, and where its parts lie. -/
abbrev ClV := Cl × (Option Addr × Nat × Nat)
def ClV.lv (p : ClV) : Value := .slice p.2.1 p.2.2.1 p.2.2.2
def cCV (p : ClV) : List Value := cC p.1 p.lv
theorem cCV_len (p : ClV) : (cCV p).length = 21 := rfl
theorem cCV_one (p : ClV) : ∀ v ∈ cCV p, v.oneCell' = true := by
 intro v hv
 simp [cCV, cC, ClV.lv] at hv
 rcases hv with rfl | rfl | rfl | rfl | rfl | rfl | rfl | rfl | rfl | rfl | rfl | rfl | rfl | rfl | rfl | rfl | rfl | rfl | rfl | rfl | rfl <;> rfl
theorem eltCl : Elt 29 40 21 192 := elt_mk (z := .agg #[.int .i64 0, .int .i64 0, .string ByteArray.empty, .bool false, .int .i64 0, .int .i64 0, .string ByteArray.empty, .int .i64 0, .int .i64 0, .int .i64 0, .bool false, .bool false, .int .i64 0, .int .i64 0, .bool false, .bool false, .slice none 0 0, .int .i64 0, .int .i64 0, .string ByteArray.empty, .int .i64 0]) Tryd.underlying29 (by kernel_rfl) (by kernel_rfl) (by kernel_rfl) rfl (by decide)
/-- A row of cells is read. -/
theorem rdC_of {B : Nat} {W : World} {v : Value} {ps : List ClV} (h : RdG cCV 21 W v ps) (hI : ∀ p ∈ ps, IsL W (fun k => k < B) p.lv p.1.x.l) : RdC B W v (ps.map Prod.fst) := by
 obtain ⟨p, cp, hv, hc⟩ := h.form
 subst hv
 refine ⟨p, cp, by simp, by simpa using hc, ?_⟩
 cases ps with
 | nil => exact .inl rfl
 | cons a l =>
   obtain ⟨b, off, rfl, hb, _⟩ := RdG.at h (i := 0) rfl
   refine .inr ⟨b, off, fun i => (((a :: l)[i]?).map ClV.lv).getD (.slice none 0 0), rfl, hb, fun i x j u hi hj => ?_, fun i x hi => ?_⟩
   · rw [List.getElem?_map] at hi
     obtain ⟨y, hy, rfl⟩ := Option.map_eq_some_iff.1 hi
     obtain ⟨b', off', hbb, _, h2⟩ := RdG.at h hy
     cases hbb
     dsimp only at hj
     rw [hy] at hj
     exact h2 j u hj
   · rw [List.getElem?_map] at hi
     obtain ⟨y, hy, rfl⟩ := Option.map_eq_some_iff.1 hi
     dsimp only
     rw [hy]
     exact hI y (List.mem_of_getElem? hy)
def xtL (i : Int) : T := tBin [42] (tRef (i, 1, false, false)) (tNum 20000)
theorem liveR_par0 : parR [65, 49, 42, 50] = (xtL 1, 0, 0) := by kernel_rfl
theorem liveR_par1 : parR [65, 50, 42, 50] = (xtL 2, 0, 0) := by kernel_rfl
theorem liveR_par2 : parR [65, 51, 42, 50] = (xtL 3, 0, 0) := by kernel_rfl
theorem liveR_par3 : parR [65, 52, 42, 50] = (xtL 4, 0, 0) := by kernel_rfl
theorem liveR_hr (i : Int) (n : Nat) : Hr (n + 2) (xtL i) := hr_bin _ _ _ _ (hr_leaf _ _ rfl) (hr_leaf _ _ rfl)
theorem liveR_wf (i : Int) (h : 1 ≤ i ∧ i ≤ 4) : Wf (xtL i) := wf_bin _ _ _ (by decide) (wf_ref _ (i64_s i (by omega)) (i64_s 1 (by decide))) (wf_num _ (i64_s 20000 (by decide)))
theorem liveR_well1 : wellT 2 (xtL 1) = true := by kernel_rfl
theorem liveR_ln1 : decide ((shT 2 (xtL 1)).length ≤ 100) = true := by kernel_rfl
theorem liveR_well2 : wellT 2 (xtL 2) = true := by kernel_rfl
theorem liveR_ln2 : decide ((shT 2 (xtL 2)).length ≤ 100) = true := by kernel_rfl
theorem liveR_well3 : wellT 2 (xtL 3) = true := by kernel_rfl
theorem liveR_ln3 : decide ((shT 2 (xtL 3)).length ≤ 100) = true := by kernel_rfl
theorem liveR_well4 : wellT 2 (xtL 4) = true := by kernel_rfl
theorem liveR_ln4 : decide ((shT 2 (xtL 4)).length ≤ 100) = true := by kernel_rfl
theorem liveR_well (i : Int) (h : 1 ≤ i ∧ i ≤ 4) : wellT 2 (xtL i) = true ∧ (shT 2 (xtL i)).length ≤ 100 := by
 have : i = 1 ∨ i = 2 ∨ i = 3 ∨ i = 4 := by omega
 rcases this with rfl | rfl | rfl | rfl
 · exact ⟨liveR_well1, of_decide_eq_true liveR_ln1⟩
 · exact ⟨liveR_well2, of_decide_eq_true liveR_ln2⟩
 · exact ⟨liveR_well3, of_decide_eq_true liveR_ln3⟩
 · exact ⟨liveR_well4, of_decide_eq_true liveR_ln4⟩
theorem liveR_show (i : Int) (h : 1 ≤ i ∧ i ≤ 4) : ShC 2 (xtL i) := show_any 2 (xtL i) (liveR_hr i 0) (liveR_wf i h) (.inl (liveR_well i h).1) (by show 3 ≤ 100000; decide)
theorem liveR_find4 (a3 b3 c3 d3 : ByteArray) (a6 a7 a9 b6 b7 b9 c6 c7 c9 d6 d7 d9 : Int) (a8 b8 c8 d8 : ByteArray) : findP (alk 2) [⟨1, 2, a3, true, xtL 1, a6, a7, a8, a9⟩, ⟨2, 2, b3, true, xtL 2, b6, b7, b8, b9⟩, ⟨3, 2, c3, true, xtL 3, c6, c7, c8, c9⟩, ⟨4, 2, d3, true, xtL 4, d6, d7, d8, d9⟩] = [(2, 1, 4)] := by kernel_rfl
/-- What four such cells are together. -/
theorem liveR_find (l : List Cl) (hl : l.length = 4) (h : ∀ (j : Nat) c, l[j]? = some c → c.row = (j : Int) + 1 ∧ c.col = 2 ∧ c.is = true ∧ c.x = xtL ((j : Int) + 1)) : findP (alk 2) l = [(2, 1, 4)] := by
 match l, hl with
 | [a, b, c, d], _ =>
   obtain ⟨a1, a2, a3, a4, a5, a6, a7, a8, a9⟩ := a
   obtain ⟨b1, b2, b3, b4, b5, b6, b7, b8, b9⟩ := b
   obtain ⟨c1, c2, c3, c4, c5, c6, c7, c8, c9⟩ := c
   obtain ⟨d1, d2, d3, d4, d5, d6, d7, d8, d9⟩ := d
   obtain ⟨h1, h2, h3, h4⟩ := h 0 _ rfl
   obtain ⟨k1, k2, k3, k4⟩ := h 1 _ rfl
   obtain ⟨m1, m2, m3, m4⟩ := h 2 _ rfl
   obtain ⟨n1, n2, n3, n4⟩ := h 3 _ rfl
   simp at h1 h2 h3 h4 k1 k2 k3 k4 m1 m2 m3 m4 n1 n2 n3 n4
   subst h1 h2 h3 h4 k1 k2 k3 k4 m1 m2 m3 m4 n1 n2 n3 n4
   exact liveR_find4 ..
/-- The cells that are laid: k of them. -/
structure LvS (w wr : World) (v : Value) (k : Nat) (ps : List ClV) : Prop where
 n : ps.length = k
 e : Ext w wr
 o : wr.ownsRow w.heap.size 40 21 v k (ps.flatMap cCV)
 i : ∀ p ∈ ps, IsL wr (fun b => ∀ q, v.ownBlock = some q → b ≠ q) p.lv p.1.x.l
 f : ∀ (j : Nat) c, (ps.map Prod.fst)[j]? = some c → c.row = (j : Int) + 1 ∧ c.col = 2 ∧ c.is = true ∧ c.x = xtL ((j : Int) + 1)
theorem LvS.start (w : World) : LvS w (w.alloc (.cells #[] 40)) (.slice (some ⟨w.heap.size, 0, none⟩) 0 0) 0 [] where
 n := rfl
 e := (Ext.refl _).alloc _
 o := own_new w w (Nat.le_refl _)
 i := fun p hp => by cases hp
 f := fun j c h => by simp at h
theorem rd_oneCl {W V : World} {c : Cl} {p : Option Addr} {n m : Nat} (e : Ext (W.alloc (.cells (cC c (.slice p n m)).toArray 40)) V) : RdG cCV 21 V (.slice (some ⟨W.heap.size, 0, none⟩) 1 1) [((c, (p, n, m)) : ClV)] :=
 RdG.one e.top (fun j u h => by simpa [cCV, ClV.lv] using h)
/-- One more is laid. -/
theorem LvS.add {w wr w2 w9 : World} {v v9 : Value} {k : Nat} {ps : List ClV} (h : LvS w wr v k ps) (e2 : Ext wr w2) {c : Cl} {p : Option Addr} {n m : Nat} (o : w9.ownsRow w.heap.size 40 21 v9 (k + 1) ((ps ++ [((c, (p, n, m)) : ClV)]).flatMap cCV)) (e9 : Ext w w9) (g9 : w2.grownBy w9 v.ownBlock)
   (hN : v9.ownBlock = v.ownBlock ∨ ∃ q, v9.ownBlock = some q ∧ w2.heap.size ≤ q) (hn : IsL w2 (fun b => wr.heap.size ≤ b) (.slice p n m) c.x.l) (hk : c.row = (k : Int) + 1 ∧ c.col = 2 ∧ c.is = true ∧ c.x = xtL ((k : Int) + 1)) : LvS w w9 v9 (k + 1) (ps ++ [((c, (p, n, m)) : ClV)]) where
 n := by rw [List.length_append, h.n]; rfl
 e := e9
 o := o
 i := fun x hx => by
   have hk : ∀ (u : Value) (l : List T), IsL w2 (fun b => ∀ q, v.ownBlock = some q → b ≠ q) u l → IsL w9 (fun b => ∀ q, v9.ownBlock = some q → b ≠ q) u l := fun u l hu => hu.keep g9.size (fun b hb hlt => g9.block b hlt (fun e => hb b e.symm rfl)) (fun b hb hlt q hq => by
     rcases hN with hN | ⟨q', hN, hs⟩
     · exact hb q (by rw [← hN]; exact hq)
     · rw [hN] at hq; cases hq; omega)
   rcases List.mem_append.1 hx with hx | hx
   · exact hk _ _ ((h.i x hx).ext e2)
   · simp at hx
     subst hx
     exact hk _ _ (hn.mono (fun b hb _ q hq => by have := (h.o.lt q hq).2; omega))
 f := fun j y hy => by
   rw [List.map_append] at hy
   rcases Nat.lt_or_ge j k with hj | hj
   · rw [List.getElem?_append_left (by rw [List.length_map, h.n]; exact hj)] at hy
     exact h.f j y hy
   · rw [List.getElem?_append_right (by rw [List.length_map, h.n]; exact hj), List.length_map, h.n] at hy
     have hjk : j - k = 0 := by have := (List.getElem?_eq_some_iff.1 hy).1; simp at this; omega
     rw [hjk] at hy
     simp at hy
     subst hy
     have : j = k := by omega
     subst this
     exact hk
set_option maxRecDepth 100000 in
theorem lives20_any (w : World) : Calls Tryd.prog 6 #[] w fun e w' => e = .returned (.bool true) ∧ Ext w w' := by
 go_enter Tryd.func6, Tryd.ntmps6
 go_wp2_with fail
 go_loopw [1, 2] (fun lv iv wr => ∃ (k : Nat) (ps : List ClV), iv = .int .i64 ((k : Int) + 1) ∧ k ≤ 4 ∧ LvS w wr lv k ps) (fun _ iv _ => 5 - (intOf iv).toNat)
 case atStart => exact ⟨0, [], rfl, by omega, LvS.start w⟩
 case round =>
   obtain ⟨k, ps, rfl, hk, hS⟩ := hrel
   obtain ⟨yp, yc, rfl, _hy⟩ := own_form hS.o
   have HS : Hid (LvS w wr (.slice yp k yc) k ps) := hS
   clear hS _hy
   rcases Nat.lt_or_ge k 4 with hlt | hge
   · have hcase : k = 0 ∨ k = 1 ∨ k = 2 ∨ k = 3 := by omega
     clear hk hlt
     rcases hcase with hk0 | hk1 | hk2 | hk3
     · have HC1 : Hid (∀ V, Ext wr V → Calls Tryd.prog 9 #[.string ⟨#[65, 49, 42, 50]⟩] V fun e w' => ∃ (x : T) (lv : Value) (pa pe : Int), e = .returned (.tuple #[aggX x lv, .int .i64 pa, .int .i64 pe]) ∧ IsL w' (wr.heap.size ≤ ·) lv x.l ∧ Ext V w' ∧ x = xtL 1) := fun V e => by
         have c1 := rformula_any ⟨#[65, 49, 42, 50]⟩ V (by decide)
         unfold RFormQ at c1
         rw [show (⟨#[65, 49, 42, 50]⟩ : ByteArray).data.toList = [65, 49, 42, 50] from rfl, liveR_par0] at c1
         refine c1.mono ?_
         rintro ee w' ⟨x, lv, pa, pe, h1, h2, h3, h4⟩
         rw [if_pos rfl] at h4
         exact ⟨x, lv, pa, pe, h1, h2.mono (fun b hb _ => Nat.le_trans e.size hb), h3, h4.1⟩
       subst hk0
       go_wp2_with fail
       refine (HC1.out _ ((Ext.refl _).alloc _)).mono ?_
       rintro e w1 ⟨x, lv, pa, pe, rfl, L1, E1, hx⟩
       obtain ⟨xp, xc, hlv, _hcl⟩ := L1.form
       obtain ⟨xn, hxn⟩ : ∃ xn, x.l.length = xn := ⟨_, rfl⟩
       rw [hxn] at hlv
       subst hlv
       have X1 : Ext wr w1 := ((Ext.refl _).alloc _).trans E1
       have cF := fun V (e : Ext w1 V) => rcell_any (1) 2 x xp xn xc (bs (shT 2 x)) (by rw [bs_size, hx]; have := (liveR_well 1 (by decide)).2; omega) V (fun U eU => by
         have := liveR_show 1 (by decide) U _ xp xn xc (by rw [← hx]; exact (L1.ext (e.trans eU)))
         rw [← hx] at this
         exact this)
       have H1 : Hid (Ext wr w1 ∧ IsL w1 (wr.heap.size ≤ ·) (.slice xp xn xc) x.l ∧ x = xtL 1) := ⟨X1, L1, hx⟩
       have RX : Hid (∀ V, Ext (w1.alloc (.cells #[.int .i64 x.k, .int .i64 x.n, .string (bs x.s), .int .i64 x.e, .int .i64 x.r.1, .int .i64 x.r.2.1, .bool x.r.2.2.1, .bool x.r.2.2.2, .int .i64 x.q.1, .int .i64 x.q.2.1, .bool x.q.2.2.1, .bool x.q.2.2.2, .slice xp xn xc] 34)) V → V.rangeAt w1.heap.size 0 [.int .i64 x.k, .int .i64 x.n, .string (bs x.s), .int .i64 x.e, .int .i64 x.r.1, .int .i64 x.r.2.1, .bool x.r.2.2.1, .bool x.r.2.2.2, .int .i64 x.q.1, .int .i64 x.q.2.1, .bool x.q.2.2.1, .bool x.q.2.2.2, .slice xp xn xc]) := fun V e => rng_top e
       clear HC1 L1 E1 X1 hx hxn _hcl
       unfold aggX
       go_wp2_with (first | (refine wpList_storeN _ rfl _ _ 34 rfl _ _ rfl rfl (by kernel_rfl) (by rfl) (by simp [Value.oneCell']) ?_) | (refine wpList_load_mid rfl 34 _ rfl w1.heap.size 0 rfl _ _ (RX.out _ (Ext.refl _)) Tryd.underlying34 rfl (by kernel_rfl) ?_))
       refine (cF _ ((Ext.refl _).alloc _)).mono ?_
       rintro e w2 ⟨rfl, E2⟩
       obtain ⟨c, hc⟩ : ∃ c, fcl (1) 2 x (bs (shT 2 x)) = c := ⟨_, rfl⟩
       have HC : Hid (c.row = (0 : Int) + 1 ∧ c.col = 2 ∧ c.is = true ∧ c.x = x) := by rw [← hc]; exact ⟨rfl, rfl, rfl, rfl⟩
       have H2 : Hid (Ext wr w2 ∧ IsL w2 (wr.heap.size ≤ ·) (.slice xp xn xc) x.l) := ⟨H1.out.1.trans (((Ext.refl _).alloc _).trans E2), H1.out.2.1.ext (((Ext.refl _).alloc _).trans E2)⟩
       rw [hc]
       unfold aggC
       clear cF E2 hc RX
       go_wp2_with (at_builtin; refine app_g eltCl cCV_len cCV_one (by decide) _ w _ _ _ _ 0 1 ps [((c, (xp, xn, xc)) : ClV)] w.heap.size rfl rfl (by rfl) (by rfl) (ownsRow_ext HS.out.o (H2.out.1.alloc _)) rfl (rd_oneCl (W := w2) (c := c) (p := xp) (n := xn) (m := xc) (Ext.refl _)) (by omega) ((HS.out.e.trans H2.out.1).alloc _) (Nat.le_refl _) ((HS.out.e.trans H2.out.1).alloc _).size ?_; intro v9 w9 O9 E9 G9 N9; have H9 : Hid (LvS w w9 v9 (0 + 1) (ps ++ [((c, (xp, xn, xc)) : ClV)])) := HS.out.add (H2.out.1.alloc _) O9 E9 G9 (N9.imp id (fun h => ⟨_, h, Nat.le_refl _⟩)) (by rw [HC.out.2.2.2]; exact H2.out.2.ext ((Ext.refl _).alloc _)) ⟨HC.out.1, HC.out.2.1, HC.out.2.2.1, by rw [HC.out.2.2.2, H1.out.2.2]; rfl⟩; clear O9 E9 G9 N9)
       go_roundw
       case rel => exact ⟨0 + 1, _, rfl, by omega, H9.out⟩
       case measure => first | decide | (simp [intOf])
     · have HC1 : Hid (∀ V, Ext wr V → Calls Tryd.prog 9 #[.string ⟨#[65, 50, 42, 50]⟩] V fun e w' => ∃ (x : T) (lv : Value) (pa pe : Int), e = .returned (.tuple #[aggX x lv, .int .i64 pa, .int .i64 pe]) ∧ IsL w' (wr.heap.size ≤ ·) lv x.l ∧ Ext V w' ∧ x = xtL 2) := fun V e => by
         have c1 := rformula_any ⟨#[65, 50, 42, 50]⟩ V (by decide)
         unfold RFormQ at c1
         rw [show (⟨#[65, 50, 42, 50]⟩ : ByteArray).data.toList = [65, 50, 42, 50] from rfl, liveR_par1] at c1
         refine c1.mono ?_
         rintro ee w' ⟨x, lv, pa, pe, h1, h2, h3, h4⟩
         rw [if_pos rfl] at h4
         exact ⟨x, lv, pa, pe, h1, h2.mono (fun b hb _ => Nat.le_trans e.size hb), h3, h4.1⟩
       subst hk1
       go_wp2_with fail
       refine (HC1.out _ ((Ext.refl _).alloc _)).mono ?_
       rintro e w1 ⟨x, lv, pa, pe, rfl, L1, E1, hx⟩
       obtain ⟨xp, xc, hlv, _hcl⟩ := L1.form
       obtain ⟨xn, hxn⟩ : ∃ xn, x.l.length = xn := ⟨_, rfl⟩
       rw [hxn] at hlv
       subst hlv
       have X1 : Ext wr w1 := ((Ext.refl _).alloc _).trans E1
       have cF := fun V (e : Ext w1 V) => rcell_any (2) 2 x xp xn xc (bs (shT 2 x)) (by rw [bs_size, hx]; have := (liveR_well 2 (by decide)).2; omega) V (fun U eU => by
         have := liveR_show 2 (by decide) U _ xp xn xc (by rw [← hx]; exact (L1.ext (e.trans eU)))
         rw [← hx] at this
         exact this)
       have H1 : Hid (Ext wr w1 ∧ IsL w1 (wr.heap.size ≤ ·) (.slice xp xn xc) x.l ∧ x = xtL 2) := ⟨X1, L1, hx⟩
       have RX : Hid (∀ V, Ext (w1.alloc (.cells #[.int .i64 x.k, .int .i64 x.n, .string (bs x.s), .int .i64 x.e, .int .i64 x.r.1, .int .i64 x.r.2.1, .bool x.r.2.2.1, .bool x.r.2.2.2, .int .i64 x.q.1, .int .i64 x.q.2.1, .bool x.q.2.2.1, .bool x.q.2.2.2, .slice xp xn xc] 34)) V → V.rangeAt w1.heap.size 0 [.int .i64 x.k, .int .i64 x.n, .string (bs x.s), .int .i64 x.e, .int .i64 x.r.1, .int .i64 x.r.2.1, .bool x.r.2.2.1, .bool x.r.2.2.2, .int .i64 x.q.1, .int .i64 x.q.2.1, .bool x.q.2.2.1, .bool x.q.2.2.2, .slice xp xn xc]) := fun V e => rng_top e
       clear HC1 L1 E1 X1 hx hxn _hcl
       unfold aggX
       go_wp2_with (first | (refine wpList_storeN _ rfl _ _ 34 rfl _ _ rfl rfl (by kernel_rfl) (by rfl) (by simp [Value.oneCell']) ?_) | (refine wpList_load_mid rfl 34 _ rfl w1.heap.size 0 rfl _ _ (RX.out _ (Ext.refl _)) Tryd.underlying34 rfl (by kernel_rfl) ?_))
       refine (cF _ ((Ext.refl _).alloc _)).mono ?_
       rintro e w2 ⟨rfl, E2⟩
       obtain ⟨c, hc⟩ : ∃ c, fcl (2) 2 x (bs (shT 2 x)) = c := ⟨_, rfl⟩
       have HC : Hid (c.row = (1 : Int) + 1 ∧ c.col = 2 ∧ c.is = true ∧ c.x = x) := by rw [← hc]; exact ⟨rfl, rfl, rfl, rfl⟩
       have H2 : Hid (Ext wr w2 ∧ IsL w2 (wr.heap.size ≤ ·) (.slice xp xn xc) x.l) := ⟨H1.out.1.trans (((Ext.refl _).alloc _).trans E2), H1.out.2.1.ext (((Ext.refl _).alloc _).trans E2)⟩
       rw [hc]
       unfold aggC
       clear cF E2 hc RX
       go_wp2_with (at_builtin; refine app_g eltCl cCV_len cCV_one (by decide) _ w _ _ _ _ 1 1 ps [((c, (xp, xn, xc)) : ClV)] w.heap.size rfl rfl (by rfl) (by rfl) (ownsRow_ext HS.out.o (H2.out.1.alloc _)) rfl (rd_oneCl (W := w2) (c := c) (p := xp) (n := xn) (m := xc) (Ext.refl _)) (by omega) ((HS.out.e.trans H2.out.1).alloc _) (Nat.le_refl _) ((HS.out.e.trans H2.out.1).alloc _).size ?_; intro v9 w9 O9 E9 G9 N9; have H9 : Hid (LvS w w9 v9 (1 + 1) (ps ++ [((c, (xp, xn, xc)) : ClV)])) := HS.out.add (H2.out.1.alloc _) O9 E9 G9 (N9.imp id (fun h => ⟨_, h, Nat.le_refl _⟩)) (by rw [HC.out.2.2.2]; exact H2.out.2.ext ((Ext.refl _).alloc _)) ⟨HC.out.1, HC.out.2.1, HC.out.2.2.1, by rw [HC.out.2.2.2, H1.out.2.2]; rfl⟩; clear O9 E9 G9 N9)
       go_roundw
       case rel => exact ⟨1 + 1, _, rfl, by omega, H9.out⟩
       case measure => first | decide | (simp [intOf])
     · have HC1 : Hid (∀ V, Ext wr V → Calls Tryd.prog 9 #[.string ⟨#[65, 51, 42, 50]⟩] V fun e w' => ∃ (x : T) (lv : Value) (pa pe : Int), e = .returned (.tuple #[aggX x lv, .int .i64 pa, .int .i64 pe]) ∧ IsL w' (wr.heap.size ≤ ·) lv x.l ∧ Ext V w' ∧ x = xtL 3) := fun V e => by
         have c1 := rformula_any ⟨#[65, 51, 42, 50]⟩ V (by decide)
         unfold RFormQ at c1
         rw [show (⟨#[65, 51, 42, 50]⟩ : ByteArray).data.toList = [65, 51, 42, 50] from rfl, liveR_par2] at c1
         refine c1.mono ?_
         rintro ee w' ⟨x, lv, pa, pe, h1, h2, h3, h4⟩
         rw [if_pos rfl] at h4
         exact ⟨x, lv, pa, pe, h1, h2.mono (fun b hb _ => Nat.le_trans e.size hb), h3, h4.1⟩
       subst hk2
       go_wp2_with fail
       refine (HC1.out _ ((Ext.refl _).alloc _)).mono ?_
       rintro e w1 ⟨x, lv, pa, pe, rfl, L1, E1, hx⟩
       obtain ⟨xp, xc, hlv, _hcl⟩ := L1.form
       obtain ⟨xn, hxn⟩ : ∃ xn, x.l.length = xn := ⟨_, rfl⟩
       rw [hxn] at hlv
       subst hlv
       have X1 : Ext wr w1 := ((Ext.refl _).alloc _).trans E1
       have cF := fun V (e : Ext w1 V) => rcell_any (3) 2 x xp xn xc (bs (shT 2 x)) (by rw [bs_size, hx]; have := (liveR_well 3 (by decide)).2; omega) V (fun U eU => by
         have := liveR_show 3 (by decide) U _ xp xn xc (by rw [← hx]; exact (L1.ext (e.trans eU)))
         rw [← hx] at this
         exact this)
       have H1 : Hid (Ext wr w1 ∧ IsL w1 (wr.heap.size ≤ ·) (.slice xp xn xc) x.l ∧ x = xtL 3) := ⟨X1, L1, hx⟩
       have RX : Hid (∀ V, Ext (w1.alloc (.cells #[.int .i64 x.k, .int .i64 x.n, .string (bs x.s), .int .i64 x.e, .int .i64 x.r.1, .int .i64 x.r.2.1, .bool x.r.2.2.1, .bool x.r.2.2.2, .int .i64 x.q.1, .int .i64 x.q.2.1, .bool x.q.2.2.1, .bool x.q.2.2.2, .slice xp xn xc] 34)) V → V.rangeAt w1.heap.size 0 [.int .i64 x.k, .int .i64 x.n, .string (bs x.s), .int .i64 x.e, .int .i64 x.r.1, .int .i64 x.r.2.1, .bool x.r.2.2.1, .bool x.r.2.2.2, .int .i64 x.q.1, .int .i64 x.q.2.1, .bool x.q.2.2.1, .bool x.q.2.2.2, .slice xp xn xc]) := fun V e => rng_top e
       clear HC1 L1 E1 X1 hx hxn _hcl
       unfold aggX
       go_wp2_with (first | (refine wpList_storeN _ rfl _ _ 34 rfl _ _ rfl rfl (by kernel_rfl) (by rfl) (by simp [Value.oneCell']) ?_) | (refine wpList_load_mid rfl 34 _ rfl w1.heap.size 0 rfl _ _ (RX.out _ (Ext.refl _)) Tryd.underlying34 rfl (by kernel_rfl) ?_))
       refine (cF _ ((Ext.refl _).alloc _)).mono ?_
       rintro e w2 ⟨rfl, E2⟩
       obtain ⟨c, hc⟩ : ∃ c, fcl (3) 2 x (bs (shT 2 x)) = c := ⟨_, rfl⟩
       have HC : Hid (c.row = (2 : Int) + 1 ∧ c.col = 2 ∧ c.is = true ∧ c.x = x) := by rw [← hc]; exact ⟨rfl, rfl, rfl, rfl⟩
       have H2 : Hid (Ext wr w2 ∧ IsL w2 (wr.heap.size ≤ ·) (.slice xp xn xc) x.l) := ⟨H1.out.1.trans (((Ext.refl _).alloc _).trans E2), H1.out.2.1.ext (((Ext.refl _).alloc _).trans E2)⟩
       rw [hc]
       unfold aggC
       clear cF E2 hc RX
       go_wp2_with (at_builtin; refine app_g eltCl cCV_len cCV_one (by decide) _ w _ _ _ _ 2 1 ps [((c, (xp, xn, xc)) : ClV)] w.heap.size rfl rfl (by rfl) (by rfl) (ownsRow_ext HS.out.o (H2.out.1.alloc _)) rfl (rd_oneCl (W := w2) (c := c) (p := xp) (n := xn) (m := xc) (Ext.refl _)) (by omega) ((HS.out.e.trans H2.out.1).alloc _) (Nat.le_refl _) ((HS.out.e.trans H2.out.1).alloc _).size ?_; intro v9 w9 O9 E9 G9 N9; have H9 : Hid (LvS w w9 v9 (2 + 1) (ps ++ [((c, (xp, xn, xc)) : ClV)])) := HS.out.add (H2.out.1.alloc _) O9 E9 G9 (N9.imp id (fun h => ⟨_, h, Nat.le_refl _⟩)) (by rw [HC.out.2.2.2]; exact H2.out.2.ext ((Ext.refl _).alloc _)) ⟨HC.out.1, HC.out.2.1, HC.out.2.2.1, by rw [HC.out.2.2.2, H1.out.2.2]; rfl⟩; clear O9 E9 G9 N9)
       go_roundw
       case rel => exact ⟨2 + 1, _, rfl, by omega, H9.out⟩
       case measure => first | decide | (simp [intOf])
     · have HC1 : Hid (∀ V, Ext wr V → Calls Tryd.prog 9 #[.string ⟨#[65, 52, 42, 50]⟩] V fun e w' => ∃ (x : T) (lv : Value) (pa pe : Int), e = .returned (.tuple #[aggX x lv, .int .i64 pa, .int .i64 pe]) ∧ IsL w' (wr.heap.size ≤ ·) lv x.l ∧ Ext V w' ∧ x = xtL 4) := fun V e => by
         have c1 := rformula_any ⟨#[65, 52, 42, 50]⟩ V (by decide)
         unfold RFormQ at c1
         rw [show (⟨#[65, 52, 42, 50]⟩ : ByteArray).data.toList = [65, 52, 42, 50] from rfl, liveR_par3] at c1
         refine c1.mono ?_
         rintro ee w' ⟨x, lv, pa, pe, h1, h2, h3, h4⟩
         rw [if_pos rfl] at h4
         exact ⟨x, lv, pa, pe, h1, h2.mono (fun b hb _ => Nat.le_trans e.size hb), h3, h4.1⟩
       subst hk3
       go_wp2_with fail
       refine (HC1.out _ ((Ext.refl _).alloc _)).mono ?_
       rintro e w1 ⟨x, lv, pa, pe, rfl, L1, E1, hx⟩
       obtain ⟨xp, xc, hlv, _hcl⟩ := L1.form
       obtain ⟨xn, hxn⟩ : ∃ xn, x.l.length = xn := ⟨_, rfl⟩
       rw [hxn] at hlv
       subst hlv
       have X1 : Ext wr w1 := ((Ext.refl _).alloc _).trans E1
       have cF := fun V (e : Ext w1 V) => rcell_any (4) 2 x xp xn xc (bs (shT 2 x)) (by rw [bs_size, hx]; have := (liveR_well 4 (by decide)).2; omega) V (fun U eU => by
         have := liveR_show 4 (by decide) U _ xp xn xc (by rw [← hx]; exact (L1.ext (e.trans eU)))
         rw [← hx] at this
         exact this)
       have H1 : Hid (Ext wr w1 ∧ IsL w1 (wr.heap.size ≤ ·) (.slice xp xn xc) x.l ∧ x = xtL 4) := ⟨X1, L1, hx⟩
       have RX : Hid (∀ V, Ext (w1.alloc (.cells #[.int .i64 x.k, .int .i64 x.n, .string (bs x.s), .int .i64 x.e, .int .i64 x.r.1, .int .i64 x.r.2.1, .bool x.r.2.2.1, .bool x.r.2.2.2, .int .i64 x.q.1, .int .i64 x.q.2.1, .bool x.q.2.2.1, .bool x.q.2.2.2, .slice xp xn xc] 34)) V → V.rangeAt w1.heap.size 0 [.int .i64 x.k, .int .i64 x.n, .string (bs x.s), .int .i64 x.e, .int .i64 x.r.1, .int .i64 x.r.2.1, .bool x.r.2.2.1, .bool x.r.2.2.2, .int .i64 x.q.1, .int .i64 x.q.2.1, .bool x.q.2.2.1, .bool x.q.2.2.2, .slice xp xn xc]) := fun V e => rng_top e
       clear HC1 L1 E1 X1 hx hxn _hcl
       unfold aggX
       go_wp2_with (first | (refine wpList_storeN _ rfl _ _ 34 rfl _ _ rfl rfl (by kernel_rfl) (by rfl) (by simp [Value.oneCell']) ?_) | (refine wpList_load_mid rfl 34 _ rfl w1.heap.size 0 rfl _ _ (RX.out _ (Ext.refl _)) Tryd.underlying34 rfl (by kernel_rfl) ?_))
       refine (cF _ ((Ext.refl _).alloc _)).mono ?_
       rintro e w2 ⟨rfl, E2⟩
       obtain ⟨c, hc⟩ : ∃ c, fcl (4) 2 x (bs (shT 2 x)) = c := ⟨_, rfl⟩
       have HC : Hid (c.row = (3 : Int) + 1 ∧ c.col = 2 ∧ c.is = true ∧ c.x = x) := by rw [← hc]; exact ⟨rfl, rfl, rfl, rfl⟩
       have H2 : Hid (Ext wr w2 ∧ IsL w2 (wr.heap.size ≤ ·) (.slice xp xn xc) x.l) := ⟨H1.out.1.trans (((Ext.refl _).alloc _).trans E2), H1.out.2.1.ext (((Ext.refl _).alloc _).trans E2)⟩
       rw [hc]
       unfold aggC
       clear cF E2 hc RX
       go_wp2_with (at_builtin; refine app_g eltCl cCV_len cCV_one (by decide) _ w _ _ _ _ 3 1 ps [((c, (xp, xn, xc)) : ClV)] w.heap.size rfl rfl (by rfl) (by rfl) (ownsRow_ext HS.out.o (H2.out.1.alloc _)) rfl (rd_oneCl (W := w2) (c := c) (p := xp) (n := xn) (m := xc) (Ext.refl _)) (by omega) ((HS.out.e.trans H2.out.1).alloc _) (Nat.le_refl _) ((HS.out.e.trans H2.out.1).alloc _).size ?_; intro v9 w9 O9 E9 G9 N9; have H9 : Hid (LvS w w9 v9 (3 + 1) (ps ++ [((c, (xp, xn, xc)) : ClV)])) := HS.out.add (H2.out.1.alloc _) O9 E9 G9 (N9.imp id (fun h => ⟨_, h, Nat.le_refl _⟩)) (by rw [HC.out.2.2.2]; exact H2.out.2.ext ((Ext.refl _).alloc _)) ⟨HC.out.1, HC.out.2.1, HC.out.2.2.1, by rw [HC.out.2.2.2, H1.out.2.2]; rfl⟩; clear O9 E9 G9 N9)
       go_roundw
       case rel => exact ⟨3 + 1, _, rfl, by omega, H9.out⟩
       case measure => first | decide | (simp [intOf])
   · have hk4 : k = 4 := by omega
     have hltI : (4 : Int) < (k : Int) + 1 := by omega
     have cF := find_any 2 (ps.map Prod.fst) wr (.slice yp k yc) (rdC_of (own_rdG cCV_len HS.out.o HS.out.n.symm) (fun p hp => (HS.out.i p hp).mono (fun b _ hb => hb))) (by rw [List.length_map, HS.out.n]; omega) (fun c hc => by
       obtain ⟨j, hj⟩ := List.mem_iff_getElem?.1 hc
       rw [(HS.out.f j c hj).2.2.2]
       exact liveR_hr _ 0) (hr_leaf 1 _ rfl)
     rw [liveR_find (ps.map Prod.fst) (by rw [List.length_map, HS.out.n, hk4]) HS.out.f] at cF
     clear hk hge hk4
     go_wp2_with fail
     refine cF.mono ?_
     rintro e w2 ⟨v2, rfl, R2, E2⟩
     obtain ⟨zp, zc, rfl, _hz⟩ := R2.form
     have HR2 : Hid (RdRn w2 (.slice zp 1 zc) [(2, 1, 4)] ∧ Ext w w2) := ⟨R2, HS.out.e.trans E2⟩
     have cS := fun V (e : Ext w2 V) u (hu : RdRn V u [(2, 1, 4)]) => rgsame_any V (.slice zp 1 zc) u [(2, 1, 4)] [(2, 1, 4)] (R2.ext e) hu (by simp)
     clear cF R2 E2 _hz
     go_wp2_with fail
     refine (cS _ ((Ext.refl _).alloc _) _ (rd_oneRn (x := (2, 1, 4)) (Ext.refl _))).mono ?_
     rintro e w3 ⟨rfl, E3⟩
     have HE3 : Hid (Ext w w3) := HR2.out.2.trans (((Ext.refl _).alloc _).trans E3)
     clear cS E3
     go_wp2_with fail
     go_ret
     exact ⟨ret_bool (by simp), HE3.out⟩

open Go.ChangeShapes Go.WideShapes Go.RowKit
open Go.Joins (trod_struct4)
open Go.Deep (choose_lt)
set_option maxHeartbeats 2000000

theorem qc_value : Tryd.prog.cellsOf 27 = 4 := by kernel_rfl
theorem qc_int : Tryd.prog.cellsOf 3 = 1 := by kernel_rfl
theorem qc_int64 : Tryd.prog.cellsOf 2 = 1 := by kernel_rfl
theorem qc_string : Tryd.prog.cellsOf 9 = 1 := by kernel_rfl
section
variable {H : Type} {enc : TypeId × Value → H} {w : World} {base : Nat} {sp : Nat → Bool} {hd : Bool}
instance : Inhabited Rw := ⟨⟨0, 0, ⟨#[]⟩, 0⟩⟩
instance : Inhabited Ag := ⟨⟨false, []⟩⟩
theorem open_val {fuel : Nat} {cs : List Value} {x : DataW H × List MemPlace} (hl : cs.length = 4) (h : DataW.trod enc Tryd.prog w base sp hd fuel 27 cs = some x) :
   ∃ r : Rw, cs = [.int .i64 r.k, .int .i64 r.n, .string r.s, .int .i64 r.e] ∧ I64 r.n := by
 match cs, hl with
 | [c0, c1, c2, c3], _ =>
   obtain ⟨y0, y1, y2, y3, n, _, _, h0, h1, h2, h3⟩ := trod_struct4 Tryd.underlying27 h
   simp [qc_int, qc_int64, qc_string] at h0 h1 h2 h3
   obtain ⟨a0, e0, _, w0⟩ := DataW.trod_int Tryd.underlying3 h0
   obtain ⟨a1, e1, _, w1⟩ := DataW.trod_int Tryd.underlying2 h1
   obtain ⟨a2, e2, _, w2⟩ := DataW.trod_string Tryd.underlying9 h2
   obtain ⟨a3, e3, _, w3⟩ := DataW.trod_int Tryd.underlying3 h3
   simp only [List.cons.injEq, and_true] at e0 e1 e2 e3
   exact ⟨⟨a0, a1, a2, a3⟩, by rw [e0, e1, e2, e3], i64_of_wf w1⟩
theorem open_vals {fuel : Nat} {c : Value} {x : DataW H × List MemPlace} (h : DataW.trod enc Tryd.prog w base sp hd fuel 22 [c] = some x) :
   ∃ l, RdV w.heap.size w c l ∧ (∀ r ∈ l, I64 r.n) ∧ l.length ≤ maxLen := by
 rcases DataW.trod_slice Tryd.underlying22 h with ⟨e6, _⟩ | ⟨a, len, cap, elems, rest, n', hn', e6, _, hb, hl, hm, hel, hx, _, _⟩
 · simp only [List.cons.injEq, and_true] at e6
   subst e6
   exact ⟨[], ⟨none, 0, rfl, Nat.le_refl _, .inl rfl⟩, (fun r hr => by cases hr), by simp⟩
 · simp only [List.cons.injEq, and_true] at e6
   subst e6
   rw [qc_value] at hx
   have each : ∀ i, i < len → ∃ r : Rw, (w.cell? (a.add (i * 4)) = some (.int .i64 r.k) ∧ w.cell? ((a.add (i * 4)).add 1) = some (.int .i64 r.n) ∧ w.cell? ((a.add (i * 4)).add 2) = some (.string r.s) ∧ w.cell? ((a.add (i * 4)).add 3) = some (.int .i64 r.e)) ∧ I64 r.n := by
     intro i hi
     have h0 := hx i hi
     rw [List.getElem?_eq_getElem (show i < elems.length by omega)] at h0
     obtain ⟨cs', h1, h2⟩ := Option.bind_eq_some_iff.1 h0
     obtain ⟨_, k1, k2⟩ := World.cells?_some h1
     obtain ⟨r, rfl, hr⟩ := open_val (by simpa using k1) h2
     refine ⟨r, ⟨?_, ?_, ?_, ?_⟩, hr⟩
     · exact k2 0 (by simp at k1 ⊢)
     · exact k2 1 (by simp at k1 ⊢)
     · exact k2 2 (by simp at k1 ⊢)
     · exact k2 3 (by simp at k1 ⊢)
   obtain ⟨f, hf⟩ := choose_lt each
   by_cases h0 : len = 0
   · subst h0
     exact ⟨[], ⟨_, _, rfl, by omega, .inl rfl⟩, (fun r hr => by cases hr), by simp⟩
   obtain ⟨b, off, spot⟩ := a
   have hz := (hf 0 (by omega)).1.1
   have hspot : spot = none := by simpa [Addr.add] using World.cell?_spot hz
   subst hspot
   have hblt : b < w.heap.size := World.block_lt_of_cell? _ _ hz
   have hgl : ((List.range len).map f).length = len := by simp
   refine ⟨(List.range len).map f, ⟨_, cap, by rw [hgl], by omega, .inr ⟨b, off, rfl, hblt, hblt, fun i r hi => ?_⟩⟩, ?_, by simp; omega⟩
   · have hi' : i < len := by
       have := (List.getElem?_eq_some_iff.1 hi).1
       simpa using this
     rw [List.getElem?_map, List.getElem?_range hi'] at hi
     simp at hi
     subst hi
     have := (hf i hi').1
     simp only [Addr.add_lit] at this
     exact this
   · intro r hr
     obtain ⟨i, hi, rfl⟩ := List.mem_map.1 hr
     exact (hf i (List.mem_range.1 hi)).2
end

open Go.ChangeShapes Go.WideShapes Go.RowKit
set_option maxHeartbeats 2000000

theorem qv_value : Tryd.prog.bytesOf 27 = 40 := by kernel_rfl
section
variable {H : Type} {enc : TypeId × Value → H} {w : World} {base : Nat} {sp : Nat → Bool} {hd : Bool}
theorem vals_len40 {fuel B : Nat} {c : Value} {x : DataW H × List MemPlace} {l : List Rw} (h : DataW.trod enc Tryd.prog w base sp hd fuel 22 [c] = some x) (hl : RdV B w c l) (hw : ∀ n ∈ x.1.weights Tryd.prog 22, n ≤ reachBytes) : l.length * 40 ≤ reachBytes := by
 obtain ⟨p, c', h1, _⟩ := hl
 rcases DataW.trod_slice Tryd.underlying22 h with ⟨e6, _⟩ | ⟨a, len, cap, elems, rest, n', hn', e6, hx, _, _, _, hel, _⟩
 · simp only [List.cons.injEq, and_true] at e6
   subst e6
   simp only [Value.slice.injEq] at h1
   omega
 · simp only [List.cons.injEq, and_true] at e6
   subst e6
   simp only [Value.slice.injEq] at h1
   subst hx
   have := hw ((elems.length + rest.length) * Tryd.prog.bytesOf 27) (by simp [DataW.weights, Tryd.underlying22])
   rw [qv_value] at this
   omega
end
theorem fm_len {α : Type} (c : α → List Value) (k : Nat) (hc : ∀ x, (c x).length = k) (l : List α) : (l.flatMap c).length = l.length * k := by
 induction l with
 | nil => simp
 | cons x l ih => rw [List.flatMap_cons, List.length_append, hc, ih, List.length_cons, Nat.succ_mul]; omega
theorem fm_at {α : Type} (c : α → List Value) (k : Nat) (hc : ∀ x, (c x).length = k) : ∀ (l : List α) (i : Nat) (x : α) (j : Nat), l[i]? = some x → j < k → (l.flatMap c)[i * k + j]? = (c x)[j]?
 | [], i, x, j, h, _ => by simp at h
 | y :: l, 0, x, j, h, hj => by
   simp at h; subst h
   rw [List.flatMap_cons, Nat.zero_mul, Nat.zero_add, List.getElem?_append_left (by rw [hc]; exact hj)]
 | y :: l, i + 1, x, j, h, hj => by
   have ih := fm_at c k hc l i x j (by simpa using h) hj
   rw [List.flatMap_cons, List.getElem?_append_right (by rw [hc, Nat.succ_mul]; omega), hc, ← ih]
   congr 1
   rw [Nat.succ_mul]; omega
theorem fm_get {α : Type} (c : α → List Value) (k : Nat) (hc : ∀ x, (c x).length = k) (hk : 0 < k) (l : List α) (j : Nat) (u : Value) (h : (l.flatMap c)[j]? = some u) : ∃ x, l[j / k]? = some x ∧ (c x)[j % k]? = some u := by
 have hj : j < l.length * k := by rw [← fm_len c k hc]; exact (List.getElem?_eq_some_iff.1 h).1
 have hi : j / k < l.length := by rw [Nat.div_lt_iff_lt_mul hk]; exact hj
 refine ⟨l[j / k], List.getElem?_eq_getElem hi, ?_⟩
 rw [← fm_at c k hc l (j / k) _ (j % k) (List.getElem?_eq_getElem hi) (Nat.mod_lt _ hk), Nat.mul_comm, Nat.div_add_mod]
 exact h
/-- The cells of a value, of an argument. -/
def cV (r : Rw) : List Value := [.int .i64 r.k, .int .i64 r.n, .string r.s, .int .i64 r.e]
theorem cV_len (r : Rw) : (cV r).length = 4 := rfl
theorem eltV : Elt 22 27 4 40 := by
 refine ⟨Tryd.underlying22, ?_, by decide⟩
 have h1 : (Tryd.prog.info? 27).isSome = true := by kernel_rfl
 have h2 : (Tryd.prog.info? 27).bind (fun i => i.zero) = some (.agg #[.int .i64 0, .int .i64 0, .string ⟨#[]⟩, .int .i64 0]) := by kernel_rfl
 have h3 : (Tryd.prog.info? 27).map (fun i => (i.size, i.bytes)) = some (4, 40) := by kernel_rfl
 cases h : Tryd.prog.info? 27 with
 | none => rw [h] at h1; cases h1
 | some i =>
   rw [h] at h2 h3
   simp at h2 h3
   exact ⟨i, _, rfl, h2, h3.1, h3.2, rfl⟩
theorem RdV.row {B : Nat} {W : World} {v : Value} {l : List Rw} (h : RdV B W v l) : RowC W v l.length 4 (l.flatMap cV) := by
 obtain ⟨p, c, h1, h2, h3⟩ := h
 refine ⟨fm_len cV 4 cV_len l, p, c, h1, ?_⟩
 rcases h3 with rfl | ⟨b, off, rfl, _, _, h6⟩
 · cases p with
   | none => exact .inl ⟨rfl, rfl⟩
   | some ad => exact .inr ⟨ad, rfl, fun j u hu => by simp at hu⟩
 · refine .inr ⟨_, rfl, fun j u hu => ?_⟩
   obtain ⟨r, hr, hu⟩ := fm_get cV 4 cV_len (by decide) l j u hu
   obtain ⟨k0, k1, k2, k3⟩ := h6 _ r hr
   rw [Addr.add_lit]
   have hj := Nat.div_add_mod j 4
   have hm := Nat.mod_lt j (show 0 < 4 by decide)
   match hmm : j % 4, hu with
   | 0, hu => simp [cV] at hu; subst hu; rw [show off + j = off + j / 4 * 4 by omega]; exact k0
   | 1, hu => simp [cV] at hu; subst hu; rw [show off + j = off + j / 4 * 4 + 1 by omega]; exact k1
   | 2, hu => simp [cV] at hu; subst hu; rw [show off + j = off + j / 4 * 4 + 2 by omega]; exact k2
   | 3, hu => simp [cV] at hu; subst hu; rw [show off + j = off + j / 4 * 4 + 3 by omega]; exact k3
   | q + 4, _ => omega
theorem cV_one (l : List Rw) : ∀ u ∈ l.flatMap cV, u.oneCell' = true := by
 intro u hu
 obtain ⟨r, _, hu⟩ := List.mem_flatMap.1 hu
 simp [cV] at hu
 rcases hu with rfl | rfl | rfl | rfl <;> rfl
theorem own_rdV {W : World} {base : Nat} {v : Value} {l : List Rw} (h : W.ownsRow base 27 4 v l.length (l.flatMap cV)) : RdV W.heap.size W v l := by
 rcases h.2 with ⟨rfl, h0⟩ | ⟨g, cap, cur, rfl, h2, h3, h4, h5⟩
 · have : l = [] := List.eq_nil_of_length_eq_zero h0
   subst this
   exact ⟨none, 0, rfl, Nat.le_refl _, .inl rfl⟩
 · have hg : g < W.heap.size := (Array.getElem?_eq_some_iff.1 h3).1
   refine ⟨_, cap, rfl, h4, .inr ⟨g, 0, rfl, hg, hg, fun i r hr => ?_⟩⟩
   have k := fun j (hj : j < 4) u (hu : (cV r)[j]? = some u) => h.cells (g := g) rfl (i * 4 + j) u (by rw [fm_at cV 4 cV_len l i r j hr hj]; exact hu)
   simp only [Addr.add_lit] at k
   exact ⟨k 0 (by decide) _ rfl, k 1 (by decide) _ rfl, k 2 (by decide) _ rfl, k 3 (by decide) _ rfl⟩

open Go.ChangeShapes Go.WideShapes Go.ChangeAt Go.RowKit

theorem ownK : ownKnob Tryd.prog.godebug = none := by kernel_rfl
/-- A datum's cells. -/
def flat : Nat → DataW Unit → List Value
 | _ + 1, .lit (.int k z) => [.int k z]
 | _ + 1, .lit (.string l) => [.string ⟨l.toArray⟩]
 | n + 1, .agg ds => ds.flatMap (flat n)
 | _, _ => []
def layIn (cs : List Value) : Obj → Obj
 | .cells _ t frozen => .cells cs.toArray t frozen
 | o => o
theorem gNames : Tryd.prog.globalNamed "cadastre/value.names" = some 0 := by kernel_rfl
theorem gNamesType : (Tryd.prog.globals[0]?).map (·.type) = some 89 := by kernel_rfl
theorem cellsNames : Tryd.prog.cellsOf 89 = 6 := by kernel_rfl
theorem cellsStr : Tryd.prog.cellsOf 9 = 1 := by kernel_rfl
theorem names_of {W : World} {rest : List (String × DataW Unit)} (h : laidMet Tryd.prog (("cadastre/value.names", Rows.laid_cadastre_value_names) :: rest) W) : Nm W := by
 obtain ⟨ps, ⟨g', t', cs, fuel, p, q, hg', ht', hvar, hd, _, _⟩, _⟩ := h
 obtain rfl := Option.some.inj (gNames.symm.trans hg')
 obtain rfl := Option.some.inj (gNamesType.symm.trans ht')
 have hcell := World.var?_cell gNames hvar
 have hsz : 0 < W.heap.size := by
   have h0 := hvar
   simp only [World.var?, gNames, Option.bind_some] at h0
   cases hb : W.heap[0]? with
   | none => rw [hb] at h0; cases h0
   | some o => exact (Array.getElem?_eq_some_iff.1 hb).1
 cases fuel with
 | zero => simp [DataW.trod] at hd
 | succ fuel =>
   simp only [DataW.trod, Tryd.underlying89, cellsStr, cellsNames, Nat.mul_one] at hd
   split at hd
   · obtain ⟨xs, hm, hx⟩ := Option.map_eq_some_iff.1 hd
     have hxs : xs.map (·.1) = ([.lit (.string []), .lit (.string [35, 82, 69, 70, 33]), .lit (.string [35, 86, 65, 76, 85, 69, 33]), .lit (.string [35, 68, 73, 86, 47, 48, 33]), .lit (.string [35, 78, 85, 77, 33]), .lit (.string [35, 67, 89, 67, 76, 69, 33])] : List (DataW Unit)) := by
       have := congrArg Prod.fst hx
       simpa [Rows.laid_cadastre_value_names] using this
     have key : ∀ (i : Nat) (l : List UInt8), i < 6 → (xs.map (·.1))[i]? = some (DataW.lit (.string l)) → W.cell? ⟨0, i, none⟩ = some (.string ⟨l.toArray⟩) := by
       intro i l hi hl
       obtain ⟨b, hb, hf⟩ := Lib.mapM_at hm i i (by simp [hi])
       obtain ⟨s, hc, rfl, _⟩ := DataW.trod_string Tryd.underlying9 hf
       have h1 : cs.toList[i]? = some (.string s) := by
         have := congrArg (·[0]?) hc
         simpa [List.getElem?_take, List.getElem?_drop] using this
       have h2 : (xs.map (·.1))[i]? = some (DataW.lit (.string s.data.toList) : DataW Unit) := by simp [hb]
       rw [hl] at h2
       simp only [Option.some.injEq, DataW.lit.injEq, Lit.string.injEq] at h2
       rw [hcell i, h2]
       simpa using h1
     rw [hxs] at key
     exact ⟨hsz, key 0 _ (by decide) rfl, key 1 _ (by decide) rfl, key 2 _ (by decide) rfl, key 3 _ (by decide) rfl, key 4 _ (by decide) rfl, key 5 _ (by decide) rfl⟩
   · cases hd

open Go.ChangeShapes Go.WideShapes Go.ChangeAt Go.RowKit

def laidListK : List (String × DataW Unit) := Rows.regionKindsRow.laid
def layAllK (h : Array Obj) : Array Obj := [(0, flat 4 Rows.laid_cadastre_value_names)].foldl (fun h x => h.modify x.1 (layIn x.2)) h
noncomputable def laidWorldK (os : Os) : World :=
 { World.holding Tryd.prog os ⟨#[], #[], []⟩ with heap := layAllK (World.holding Tryd.prog os ⟨#[], #[], []⟩).heap }
theorem nm_ofK {W : World} (h : laidMetH Tryd.prog laidListK W) : Nm W := by
 rw [MakeChecks.laidMetH_plain _ _ _ (by kernel_rfl)] at h
 exact names_of (show laidMet Tryd.prog (_ :: _) W from h)
end Go.Proofs.YtjhmbkdkjgjoaaaDoor
