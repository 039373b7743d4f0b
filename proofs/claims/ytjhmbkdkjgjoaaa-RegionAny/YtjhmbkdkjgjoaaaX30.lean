import Derived.Test.YtjhmbkdkjgjoaaaX29
import Derived.Test.YtjhmbkdkjgjoaaaX8
import Derived.Test.YtjhmbkdkjgjoaaaX21
import Derived.Test.YtjhmbkdkjgjoaaaX25
import Derived.Lib.SmallJoins
import Derived.Deep.Slices
import Derived.Test.YtjhmbkdkjgjoaaaX12
import Derived.Test.YtjhmbkdkjgjoaaaX6
import Derived.Test.YtjhmbkdkjgjoaaaX20
import Derived.Test.YtjhmbkdkjgjoaaaX24
namespace Go.Proofs.Ytjhmbkdkjgjoaaa
open Go.RowKit
set_option maxHeartbeats 6000000
theorem sum_take_le2 (f : T → Nat) (ls : List T) (j : Nat) (x : T) (h : ls[j]? = some x) : ((ls.take j).map f).sum + f x ≤ (ls.map f).sum := by
 have e : ls = ls.take j ++ x :: ls.drop (j + 1) := by
   obtain ⟨hj, hx⟩ := List.getElem?_eq_some_iff.1 h
   rw [← hx, ← List.drop_eq_getElem_cons hj, List.take_append_drop]
 have : (ls.map f).sum = ((ls.take j).map f).sum + (f x + ((ls.drop (j + 1)).map f).sum) := by
   conv => lhs; rw [e]
   simp
 omega
set_option maxRecDepth 100000 in
theorem show_call (n : Nat) (t : T) (hk : t.k = 8) (_hW : Wf t) (hl : t.l.length ≤ 100000) (hx : ∀ x ∈ t.l, ShC n x) (hlen : t.s.length + (t.l.map (fun x => (shT n x).length + 1)).sum + 10 ≤ 80000000) : ShC (n + 1) t := by
 intro W P pp ln cl hL
 have e0 : (t.k == 0) = false := by rw [hk]; rfl
 have e1 : (t.k == 1) = false := by rw [hk]; rfl
 have e2 : (t.k == 2) = false := by rw [hk]; rfl
 have e3 : (t.k == 3) = false := by rw [hk]; rfl
 have e4 : (t.k == 4) = false := by rw [hk]; rfl
 have e5 : (t.k == 5) = false := by rw [hk]; rfl
 have e6 : (t.k == 6) = false := by rw [hk]; rfl
 have e7 : (t.k == 7) = false := by rw [hk]; rfl
 have HX : Hid (shT (n + 1) t = t.s ++ 40 :: (joinL (t.l.map (shT n)) ++ [41])) := by show _ = _; rw [shT]; simp [hk]
 have hln : ln = t.l.length := by
   obtain ⟨p, c, h1, _⟩ := hL.form
   cases h1; rfl
 have hl2 : ln ≤ 100000 := by omega
 have HI : Hid (IsL W P (.slice pp ln cl) t.l) := hL
 have HLN : Hid (ln = t.l.length) := hln
 have HXX : Hid (∀ x ∈ t.l, ShC n x) := hx
 have HZ : Hid (t.s.length + (t.l.map (fun x => (shT n x).length + 1)).sum + 10 ≤ 80000000) := hlen
 have HQt : Hid ((bs t.s).data.toList = t.s) := rfl
 have hqs : (bs t.s).size ≤ 80000000 := by rw [bs_size]; omega
 have s1 : (⟨#[40]⟩ : ByteArray).size = 1 := rfl
 have s2 : (⟨#[41]⟩ : ByteArray).size = 1 := rfl
 have s3 : (⟨#[44]⟩ : ByteArray).size = 1 := rfl
 clear hL hk hl hx hlen hln
 go_enter Try.func22, Try.ntmps22
 go_wp2_with fail
 go_loopw [8, 9] (fun qv iv wr => ∃ (j : Nat) (q : ByteArray), j ≤ ln ∧ qv = .string q ∧ iv = .int .i64 (j : Int) ∧ q.data.toList = t.s ++ 40 :: joinL ((t.l.take j).map (shT n)) ∧ BlkX wr W.heap.size t (.slice pp ln cl) ∧ Ext W wr) (fun _ iv _ => ln - (intOf iv).toNat)
 case atStart => exact ⟨0, _, Nat.zero_le _, rfl, rfl, by rw [app_list, HQt.out]; simp [joinL], blk13_top rfl (Ext.refl _), (Ext.refl _).alloc _⟩
 case round =>
   obtain ⟨j, q, hj, rfl, rfl, hq, hB, hE⟩ := hrel
   have HE : Hid (Ext W wr ∧ BlkX wr W.heap.size t (.slice pp ln cl)) := ⟨hE, hB⟩
   have HQ : Hid (q.data.toList = t.s ++ 40 :: joinL ((t.l.take j).map (shT n))) := hq
   have HLJ : Hid (q.size ≤ t.s.length + 1 + ((t.l.take j).map (fun x => (shT n x).length + 1)).sum) := by
     show _ ≤ _
     rw [← size_list, hq]
     have := joinL_len ((t.l.take j).map (shT n))
     rw [List.map_map] at this
     simp only [List.length_append, List.length_cons]
     have e : (List.map ((fun l => l.length + 1) ∘ shT n) (t.l.take j)).sum = ((t.l.take j).map (fun x => (shT n x).length + 1)).sum := rfl
     omega
   obtain ⟨qz, ⟨k0, k1, k2, k3, k4, k5, k6, k7, k8, k9, k10, k11, k12⟩, gz⟩ := hB
   clear hq hE gz
   by_cases hlt : j < ln
   · have hltI : (j : Int) < (ln : Int) := by omega
     have hI := HI.out.ext HE.out.1
     obtain ⟨gb, off, x, lv, hpp, hx1, hA1, hgb, hA2, hLx, hce⟩ := hI.at (i := j) (by rw [← HLN.out]; exact hlt)
     clear hA1 hA2
     subst hpp
     obtain ⟨pp, cl', hlv, hcl⟩ := hLx.form
     obtain ⟨ln', hln'⟩ : ∃ ln', x.l.length = ln' := ⟨_, rfl⟩
     rw [hln'] at hlv
     subst hlv
     have HX1 : Hid (t.l[j]? = some x) := hx1
     have HC : Hid (∀ V, Ext wr V → Calls Try.prog 22 #[.agg #[.int .i64 x.k, .int .i64 x.n, .string (bs x.s), .int .i64 x.e, .int .i64 x.r.1, .int .i64 x.r.2.1, .bool x.r.2.2.1, .bool x.r.2.2.2, .int .i64 x.q.1, .int .i64 x.q.2.1, .bool x.q.2.2.1, .bool x.q.2.2.2, .slice pp ln' cl']] V fun e w' => e = .returned (.string (bs (shT n x))) ∧ Ext V w') := fun V e => HXX.out x (List.mem_of_getElem? hx1) V P pp ln' cl' (hLx.ext e)
     have hsz : q.size + (shT n x).length + 1 ≤ t.s.length + 1 + (t.l.map (fun x => (shT n x).length + 1)).sum := by
       have h1 := HLJ.out
       have h2 := sum_take_le2 (fun x => (shT n x).length + 1) t.l j x hx1
       omega
     have hsz2 : q.size + (shT n x).length + 1 ≤ 80000000 := by have := HZ.out; omega
     have HQx : Hid ((bs (shT n x)).data.toList = shT n x) := rfl
     have hqx : q.size + (bs (shT n x)).size + 1 ≤ 80000000 := by rw [bs_size]; exact hsz2
     clear hsz hsz2
     generalize bs (shT n x) = qx at *
     have c0 : wr.cell? ⟨gb, off + j * 13, none⟩ = some (.int .i64 x.k) := hce 0 _ rfl
     have c1 : wr.cell? ⟨gb, off + j * 13 + 1, none⟩ = some (.int .i64 x.n) := hce 1 _ rfl
     have c2 : wr.cell? ⟨gb, off + j * 13 + 2, none⟩ = some (.string (bs x.s)) := hce 2 _ rfl
     have c3 : wr.cell? ⟨gb, off + j * 13 + 3, none⟩ = some (.int .i64 x.e) := hce 3 _ rfl
     have c4 : wr.cell? ⟨gb, off + j * 13 + 4, none⟩ = some (.int .i64 x.r.1) := hce 4 _ rfl
     have c5 : wr.cell? ⟨gb, off + j * 13 + 5, none⟩ = some (.int .i64 x.r.2.1) := hce 5 _ rfl
     have c6 : wr.cell? ⟨gb, off + j * 13 + 6, none⟩ = some (.bool x.r.2.2.1) := hce 6 _ rfl
     have c7 : wr.cell? ⟨gb, off + j * 13 + 7, none⟩ = some (.bool x.r.2.2.2) := hce 7 _ rfl
     have c8 : wr.cell? ⟨gb, off + j * 13 + 8, none⟩ = some (.int .i64 x.q.1) := hce 8 _ rfl
     have c9 : wr.cell? ⟨gb, off + j * 13 + 9, none⟩ = some (.int .i64 x.q.2.1) := hce 9 _ rfl
     have c10 : wr.cell? ⟨gb, off + j * 13 + 10, none⟩ = some (.bool x.q.2.2.1) := hce 10 _ rfl
     have c11 : wr.cell? ⟨gb, off + j * 13 + 11, none⟩ = some (.bool x.q.2.2.2) := hce 11 _ rfl
     have c12 : wr.cell? ⟨gb, off + j * 13 + 12, none⟩ = some (.slice pp ln' cl') := hce 12 _ rfl
     clear hI hx1 hLx hce hcl hln'
     by_cases h0 : j = 0
     · have i0 : ¬ 0 < (j : Int) := by omega
       have HJ : Hid (joinL ((t.l.take j).map (shT n) ++ [shT n x]) = joinL ((t.l.take j).map (shT n)) ++ shT n x) := by show _ = _; rw [h0]; simp [joinL]
       clear h0
       go_wp2_with fail
       refine (HC.out _ (Ext.refl _)).mono ?_
       rintro e w1 ⟨rfl, E1⟩
       have HE1 : Hid (Ext W w1 ∧ BlkX w1 W.heap.size t (.slice (some ⟨gb, off, none⟩) ln cl)) := ⟨HE.out.1.trans E1, HE.out.2.ext E1⟩
       clear E1 k0 k1 k2 k3 k4 k5 k6 k7 k8 k9 k10 k11 k12 c0 c1 c2 c3 c4 c5 c6 c7 c8 c9 c10 c11 c12
       go_wp2_with fail
       go_roundw
       case rel =>
         refine ⟨j + 1, _, by omega, rfl, by go_num, ?_, HE1.out.2, HE1.out.1⟩
         rw [List.take_add_one, HX1.out]
         show _ = t.s ++ 40 :: joinL ((t.l.take j ++ [x]).map (shT n))
         rw [List.map_append]
         show _ = t.s ++ 40 :: joinL ((t.l.take j).map (shT n) ++ [shT n x])
         rw [HJ.out]
         simp only [app_list, HQ.out, HQx.out]
         simp
       case measure => show ln - ((j : Int) + 1).toNat < ln - ((j : Int)).toNat; omega
     · have i0 : 0 < (j : Int) := by omega
       have HJ : Hid (joinL ((t.l.take j).map (shT n) ++ [shT n x]) = joinL ((t.l.take j).map (shT n)) ++ 44 :: shT n x) := by
         refine joinL_snoc _ _ ?_
         intro h
         have h2 := congrArg List.length h
         rw [List.length_map, List.length_take] at h2
         have := HLN.out
         simp only [List.length_nil] at h2
         omega
       have s4 : (q ++ (⟨#[44]⟩ : ByteArray)).size = q.size + 1 := by rw [ByteArray.size_append, s3]
       clear h0
       go_wp2_with fail
       refine (HC.out _ (Ext.refl _)).mono ?_
       rintro e w1 ⟨rfl, E1⟩
       have HE1 : Hid (Ext W w1 ∧ BlkX w1 W.heap.size t (.slice (some ⟨gb, off, none⟩) ln cl)) := ⟨HE.out.1.trans E1, HE.out.2.ext E1⟩
       clear E1 k0 k1 k2 k3 k4 k5 k6 k7 k8 k9 k10 k11 k12 c0 c1 c2 c3 c4 c5 c6 c7 c8 c9 c10 c11 c12
       go_wp2_with fail
       go_roundw
       case rel =>
         refine ⟨j + 1, _, by omega, rfl, by go_num, ?_, HE1.out.2, HE1.out.1⟩
         rw [List.take_add_one, HX1.out]
         show _ = t.s ++ 40 :: joinL ((t.l.take j ++ [x]).map (shT n))
         rw [List.map_append]
         show _ = t.s ++ 40 :: joinL ((t.l.take j).map (shT n) ++ [shT n x])
         rw [HJ.out]
         simp only [app_list, HQ.out, HQx.out]
         simp
       case measure => show ln - ((j : Int) + 1).toNat < ln - ((j : Int)).toNat; omega
   · have hltI : ¬ (j : Int) < (ln : Int) := by omega
     have hjl : j = ln := by omega
     have HT2 : Hid (t.l.take j = t.l) := by show _ = _; rw [hjl, HLN.out]; exact List.take_length
     have hq2 : q.size ≤ 80000000 := by have h1 := HLJ.out; have h2 := HZ.out; rw [HT2.out] at h1; omega
     clear hlt hjl
     go_wp2_with fail
     go_ret
     exact ⟨ret_s (mkL _ _ (by rw [HX.out, app_list, HQ.out, HT2.out]; simp)), HE.out.1⟩
theorem show_any (n : Nat) : ∀ t : T, Hr n t → Wf t → (wellT n t = true ∨ t.k = 5) → szT n t ≤ 100000 → ShC n t := by
 induction n with
 | zero => intro t h; cases h
 | succ n ih =>
   intro t hr hw h hz
   by_cases k5 : t.k = 5
   · exact show_range n t k5 hw
   have h := h.resolve_right k5
   have hkids := hw
   obtain ⟨_, w1, w2, w3, w4, w5, w6, w7, w8, w9⟩ := hkids
   unfold wellT at h
   have hz2 : 1 + (t.l.map (szT n)).sum ≤ 100000 := by rw [szT] at hz; exact hz
   by_cases k0 : t.k = 0
   · exact show_num n t k0 hw
   by_cases k1 : t.k = 1
   · exact show_text n t k1 hw (by simpa [k1] using h)
   by_cases k2 : t.k = 2
   · exact show_bool n t k2 hw (by simpa [k2] using h)
   by_cases k3 : t.k = 3
   · exact show_err n t k3 hw (by simpa [k3] using h)
   by_cases k4 : t.k = 4
   · exact show_ref n t k4 hw
   have hn0 : ∀ x ∈ t.l, (wellT n x = true ∨ x.k = 5) → ShC n x ∧ (shT n x).length + 1 ≤ 701 * szT n x := by
     intro x hx hx1
     have := sz_mem (n := n) hx
     exact ⟨ih x (hr.2 x hx) (w9 x hx) hx1 (by omega), sh_len _ x (w9 x hx) hx1⟩
   by_cases k6 : t.k = 6
   · simp only [k6] at h
     simp at h
     obtain ⟨h1, h2⟩ := h
     match hl : t.l, h1 with
     | [x], _ =>
       have hx := hn0 x (by rw [hl]; simp) (.inl (h2 x (by rw [hl]; simp)))
       refine show_neg n t k6 hw x hl hx.1 ?_
       rw [hl] at hz2
       simp at hz2
       have := hx.2
       omega
   by_cases k7 : t.k = 7
   · simp only [k7] at h
     simp at h
     obtain ⟨⟨h0, h1⟩, h2⟩ := h
     match hl : t.l, h1 with
     | [x, y], _ =>
       have hx := hn0 x (by rw [hl]; simp) (.inl (h2 x (by rw [hl]; simp)))
       have hy := hn0 y (by rw [hl]; simp) (.inl (h2 y (by rw [hl]; simp)))
       refine show_bin n t k7 hw x y hl hx.1 hy.1 ?_
       rw [hl] at hz2
       simp at hz2
       have := hx.2
       have := hy.2
       have := bnd_len h0
       omega
   by_cases k8 : t.k = 8
   · simp only [k8] at h
     simp at h
     obtain ⟨⟨⟨h1, _⟩, h3⟩, h2⟩ := h
     have hx : ∀ x ∈ t.l, wellT n x = true ∨ x.k = 5 := by
       intro x hx
       have := h2 x hx
       by_cases k : x.k = 5
       · exact .inr k
       · exact .inl (by simpa [k] using this)
     refine show_call n t k8 hw hr.1 (fun x hx1 => (hn0 x hx1 (hx x hx1)).1) ?_
     have e1 : (t.l.map (fun x => (shT n x).length + 1)).sum ≤ (t.l.map (fun x => 701 * szT n x)).sum := psum_le fun x hx1 => (hn0 x hx1 (hx x hx1)).2
     rw [sum_mul] at e1
     have := kno_len h1
     omega
   · simp [k0, k1, k2, k3, k4, k6, k7, k8] at h
open Go.RowKit
set_option maxHeartbeats 2000000
theorem i64_s (a : Int) (h : -1000000 ≤ a ∧ a ≤ 1000000) : I64 a := ⟨by omega, by omega⟩
theorem wf0 (t : T) (h : t.l = []) (h1 : I64 t.k) (h2 : I64 t.n) (h3 : t.s.length ≤ maxLen) (h4 : I64 t.e) (h5 : I64 t.r.1) (h6 : I64 t.r.2.1) (h7 : I64 t.q.1) (h8 : I64 t.q.2.1) : Wf t := .mk t h1 h2 h3 h4 h5 h6 h7 h8 (by rw [h]; intro x hx; cases hx)
theorem wf_num (n : Int) (h : I64 n) : Wf (tNum n) := wf0 _ rfl (i64_s 0 (by decide)) h (Nat.zero_le _) (i64_s 0 (by decide)) (i64_s 0 (by decide)) (i64_s 0 (by decide)) (i64_s 0 (by decide)) (i64_s 0 (by decide))
theorem wf_bin (s : List UInt8) (x y : T) (hs : s.length ≤ maxLen) (hx : Wf x) (hy : Wf y) : Wf (tBin s x y) := .mk _ (i64_s 7 (by decide)) (i64_s 0 (by decide)) hs (i64_s 0 (by decide)) (i64_s 0 (by decide)) (i64_s 0 (by decide)) (i64_s 0 (by decide)) (i64_s 0 (by decide)) (by
 intro z hz
 rcases List.mem_cons.1 hz with rfl | hz
 · exact hx
 · rcases List.mem_cons.1 hz with rfl | hz
   · exact hy
   · cases hz)
theorem wf_ref (r : Rf) (h1 : I64 r.1) (h2 : I64 r.2.1) : Wf (tRef r) := wf0 _ rfl (i64_s 4 (by decide)) (i64_s 0 (by decide)) (Nat.zero_le _) (i64_s 0 (by decide)) h1 h2 (i64_s 0 (by decide)) (i64_s 0 (by decide))
theorem hr_leaf (n : Nat) (t : T) (h : t.l = []) : Hr (n + 1) t := ⟨by rw [h]; decide, by rw [h]; intro x hx; cases hx⟩
theorem hr_bin (n : Nat) (s : List UInt8) (x y : T) (hx : Hr n x) (hy : Hr n y) : Hr (n + 1) (tBin s x y) := ⟨by show 2 ≤ 100000; decide, by
 intro z hz
 rcases List.mem_cons.1 hz with rfl | hz
 · exact hx
 · rcases List.mem_cons.1 hz with rfl | hz
   · exact hy
   · cases hz⟩
open Go.RowKit
set_option maxHeartbeats 6000000
abbrev ClV := Cl × (Option Addr × Nat × Nat)
def ClV.lv (p : ClV) : Value := .slice p.2.1 p.2.2.1 p.2.2.2
def cCV (p : ClV) : List Value := cC p.1 p.lv
theorem cCV_len (p : ClV) : (cCV p).length = 21 := rfl
theorem cCV_one (p : ClV) : ∀ v ∈ cCV p, v.oneCell' = true := by
 intro v hv
 simp [cCV, cC, ClV.lv] at hv
 rcases hv with rfl | rfl | rfl | rfl | rfl | rfl | rfl | rfl | rfl | rfl | rfl | rfl | rfl | rfl | rfl | rfl | rfl | rfl | rfl | rfl | rfl <;> rfl
theorem eltCl : Elt 22 33 21 192 := elt_mk (z := .agg #[.int .i64 0, .int .i64 0, .string ByteArray.empty, .bool false, .int .i64 0, .int .i64 0, .string ByteArray.empty, .int .i64 0, .int .i64 0, .int .i64 0, .bool false, .bool false, .int .i64 0, .int .i64 0, .bool false, .bool false, .slice none 0 0, .int .i64 0, .int .i64 0, .string ByteArray.empty, .int .i64 0]) Try.underlying22 (by kernel_rfl) (by kernel_rfl) (by kernel_rfl) rfl (by decide)
theorem rdC_of {B : Nat} {W : World} {v : Value} {ps : List ClV} (h : RdG cCV 21 W v ps) (hI : ∀ p ∈ ps, IsL W (fun k => k < B) p.lv p.1.x.l) : RdC B W v (ps.map Prod.fst) := by
 obtain ⟨p, cp, hv, hc⟩ := h.form
 subst hv
 refine ⟨p, cp, by simp, by simpa using hc, ?_⟩
 cases ps with
 | nil => exact .inl rfl
 | cons a l =>
   obtain ⟨b, off, rfl, hb, _⟩ := RdG.at h (i := 0) rfl
   refine .inr ⟨b, off, fun i => (((a :: l)[i]?).map ClV.lv).getD (.slice none 0 0), rfl, hb, fun i x j u hi hj => ?_, fun i x hi => ?_⟩
   · rw [List.getElem?_map] at hi
     obtain ⟨y, hy, rfl⟩ := Option.map_eq_some_iff.1 hi
     obtain ⟨b', off', hbb, _, h2⟩ := RdG.at h hy
     cases hbb
     dsimp only at hj
     rw [hy] at hj
     exact h2 j u hj
   · rw [List.getElem?_map] at hi
     obtain ⟨y, hy, rfl⟩ := Option.map_eq_some_iff.1 hi
     dsimp only
     rw [hy]
     exact hI y (List.mem_of_getElem? hy)
def xtL (i : Int) : T := tBin [42] (tRef (i, 1, false, false)) (tNum 20000)
theorem liveR_par0 : parR [65, 49, 42, 50] = (xtL 1, 0, 0) := by kernel_rfl
theorem liveR_par1 : parR [65, 50, 42, 50] = (xtL 2, 0, 0) := by kernel_rfl
theorem liveR_par2 : parR [65, 51, 42, 50] = (xtL 3, 0, 0) := by kernel_rfl
theorem liveR_par3 : parR [65, 52, 42, 50] = (xtL 4, 0, 0) := by kernel_rfl
theorem liveR_hr (i : Int) (n : Nat) : Hr (n + 2) (xtL i) := hr_bin _ _ _ _ (hr_leaf _ _ rfl) (hr_leaf _ _ rfl)
theorem liveR_wf (i : Int) (h : 1 ≤ i ∧ i ≤ 4) : Wf (xtL i) := wf_bin _ _ _ (by decide) (wf_ref _ (i64_s i (by omega)) (i64_s 1 (by decide))) (wf_num _ (i64_s 20000 (by decide)))
theorem liveR_well1 : wellT 2 (xtL 1) = true := by kernel_rfl
theorem liveR_ln1 : decide ((shT 2 (xtL 1)).length ≤ 100) = true := by kernel_rfl
theorem liveR_well2 : wellT 2 (xtL 2) = true := by kernel_rfl
theorem liveR_ln2 : decide ((shT 2 (xtL 2)).length ≤ 100) = true := by kernel_rfl
theorem liveR_well3 : wellT 2 (xtL 3) = true := by kernel_rfl
theorem liveR_ln3 : decide ((shT 2 (xtL 3)).length ≤ 100) = true := by kernel_rfl
theorem liveR_well4 : wellT 2 (xtL 4) = true := by kernel_rfl
theorem liveR_ln4 : decide ((shT 2 (xtL 4)).length ≤ 100) = true := by kernel_rfl
theorem liveR_well (i : Int) (h : 1 ≤ i ∧ i ≤ 4) : wellT 2 (xtL i) = true ∧ (shT 2 (xtL i)).length ≤ 100 := by
 have : i = 1 ∨ i = 2 ∨ i = 3 ∨ i = 4 := by omega
 rcases this with rfl | rfl | rfl | rfl
 · exact ⟨liveR_well1, of_decide_eq_true liveR_ln1⟩
 · exact ⟨liveR_well2, of_decide_eq_true liveR_ln2⟩
 · exact ⟨liveR_well3, of_decide_eq_true liveR_ln3⟩
 · exact ⟨liveR_well4, of_decide_eq_true liveR_ln4⟩
theorem liveR_show (i : Int) (h : 1 ≤ i ∧ i ≤ 4) : ShC 2 (xtL i) := show_any 2 (xtL i) (liveR_hr i 0) (liveR_wf i h) (.inl (liveR_well i h).1) (by show 3 ≤ 100000; decide)
theorem liveR_find4 (a3 b3 c3 d3 : ByteArray) (a6 a7 a9 b6 b7 b9 c6 c7 c9 d6 d7 d9 : Int) (a8 b8 c8 d8 : ByteArray) : findP (alk 2) [⟨1, 2, a3, true, xtL 1, a6, a7, a8, a9⟩, ⟨2, 2, b3, true, xtL 2, b6, b7, b8, b9⟩, ⟨3, 2, c3, true, xtL 3, c6, c7, c8, c9⟩, ⟨4, 2, d3, true, xtL 4, d6, d7, d8, d9⟩] = [(2, 1, 4)] := by kernel_rfl
theorem liveR_find (l : List Cl) (hl : l.length = 4) (h : ∀ (j : Nat) c, l[j]? = some c → c.row = (j : Int) + 1 ∧ c.col = 2 ∧ c.is = true ∧ c.x = xtL ((j : Int) + 1)) : findP (alk 2) l = [(2, 1, 4)] := by
 match l, hl with
 | [a, b, c, d], _ =>
   obtain ⟨a1, a2, a3, a4, a5, a6, a7, a8, a9⟩ := a
   obtain ⟨b1, b2, b3, b4, b5, b6, b7, b8, b9⟩ := b
   obtain ⟨c1, c2, c3, c4, c5, c6, c7, c8, c9⟩ := c
   obtain ⟨d1, d2, d3, d4, d5, d6, d7, d8, d9⟩ := d
   obtain ⟨h1, h2, h3, h4⟩ := h 0 _ rfl
   obtain ⟨k1, k2, k3, k4⟩ := h 1 _ rfl
   obtain ⟨m1, m2, m3, m4⟩ := h 2 _ rfl
   obtain ⟨n1, n2, n3, n4⟩ := h 3 _ rfl
   simp at h1 h2 h3 h4 k1 k2 k3 k4 m1 m2 m3 m4 n1 n2 n3 n4
   subst h1 h2 h3 h4 k1 k2 k3 k4 m1 m2 m3 m4 n1 n2 n3 n4
   exact liveR_find4 ..
structure LvS (w wr : World) (v : Value) (k : Nat) (ps : List ClV) : Prop where
 n : ps.length = k
 e : Ext w wr
 o : wr.ownsRow w.heap.size 33 21 v k (ps.flatMap cCV)
 i : ∀ p ∈ ps, IsL wr (fun b => ∀ q, v.ownBlock = some q → b ≠ q) p.lv p.1.x.l
 f : ∀ (j : Nat) c, (ps.map Prod.fst)[j]? = some c → c.row = (j : Int) + 1 ∧ c.col = 2 ∧ c.is = true ∧ c.x = xtL ((j : Int) + 1)
theorem LvS.start (w : World) : LvS w (w.alloc (.cells #[] 33)) (.slice (some ⟨w.heap.size, 0, none⟩) 0 0) 0 [] where
 n := rfl
 e := (Ext.refl _).alloc _
 o := own_new w w (Nat.le_refl _)
 i := fun p hp => by cases hp
 f := fun j c h => by simp at h
theorem rd_oneCl {W V : World} {c : Cl} {p : Option Addr} {n m : Nat} (e : Ext (W.alloc (.cells (cC c (.slice p n m)).toArray 33)) V) : RdG cCV 21 V (.slice (some ⟨W.heap.size, 0, none⟩) 1 1) [((c, (p, n, m)) : ClV)] :=
 RdG.one e.top (fun j u h => by simpa [cCV, ClV.lv] using h)
theorem LvS.add {w wr w2 w9 : World} {v v9 : Value} {k : Nat} {ps : List ClV} (h : LvS w wr v k ps) (e2 : Ext wr w2) {c : Cl} {p : Option Addr} {n m : Nat} (o : w9.ownsRow w.heap.size 33 21 v9 (k + 1) ((ps ++ [((c, (p, n, m)) : ClV)]).flatMap cCV)) (e9 : Ext w w9) (g9 : w2.grownBy w9 v.ownBlock)
   (hN : v9.ownBlock = v.ownBlock ∨ ∃ q, v9.ownBlock = some q ∧ w2.heap.size ≤ q) (hn : IsL w2 (fun b => wr.heap.size ≤ b) (.slice p n m) c.x.l) (hk : c.row = (k : Int) + 1 ∧ c.col = 2 ∧ c.is = true ∧ c.x = xtL ((k : Int) + 1)) : LvS w w9 v9 (k + 1) (ps ++ [((c, (p, n, m)) : ClV)]) where
 n := by rw [List.length_append, h.n]; rfl
 e := e9
 o := o
 i := fun x hx => by
   have hk : ∀ (u : Value) (l : List T), IsL w2 (fun b => ∀ q, v.ownBlock = some q → b ≠ q) u l → IsL w9 (fun b => ∀ q, v9.ownBlock = some q → b ≠ q) u l := fun u l hu => hu.keep g9.size (fun b hb hlt => g9.block b hlt (fun e => hb b e.symm rfl)) (fun b hb hlt q hq => by
     rcases hN with hN | ⟨q', hN, hs⟩
     · exact hb q (by rw [← hN]; exact hq)
     · rw [hN] at hq; cases hq; omega)
   rcases List.mem_append.1 hx with hx | hx
   · exact hk _ _ ((h.i x hx).ext e2)
   · simp at hx
     subst hx
     exact hk _ _ (hn.mono (fun b hb _ q hq => by have := (h.o.lt q hq).2; omega))
 f := fun j y hy => by
   rw [List.map_append] at hy
   rcases Nat.lt_or_ge j k with hj | hj
   · rw [List.getElem?_append_left (by rw [List.length_map, h.n]; exact hj)] at hy
     exact h.f j y hy
   · rw [List.getElem?_append_right (by rw [List.length_map, h.n]; exact hj), List.length_map, h.n] at hy
     have hjk : j - k = 0 := by have := (List.getElem?_eq_some_iff.1 hy).1; simp at this; omega
     rw [hjk] at hy
     simp at hy
     subst hy
     have : j = k := by omega
     subst this
     exact hk
set_option maxRecDepth 100000 in
theorem lives20_any (w : World) : Calls Try.prog 5 #[] w fun e w' => e = .returned (.bool true) ∧ Ext w w' := by
 go_enter Try.func5, Try.ntmps5
 go_wp2_with fail
 go_loopw [1, 2] (fun lv iv wr => ∃ (k : Nat) (ps : List ClV), iv = .int .i64 ((k : Int) + 1) ∧ k ≤ 4 ∧ LvS w wr lv k ps) (fun _ iv _ => 5 - (intOf iv).toNat)
 case atStart => exact ⟨0, [], rfl, by omega, LvS.start w⟩
 case round =>
   obtain ⟨k, ps, rfl, hk, hS⟩ := hrel
   obtain ⟨yp, yc, rfl, _hy⟩ := own_form hS.o
   have HS : Hid (LvS w wr (.slice yp k yc) k ps) := hS
   clear hS _hy
   rcases Nat.lt_or_ge k 4 with hlt | hge
   · have hcase : k = 0 ∨ k = 1 ∨ k = 2 ∨ k = 3 := by omega
     clear hk hlt
     rcases hcase with hk0 | hk1 | hk2 | hk3
     · have HC1 : Hid (∀ V, Ext wr V → Calls Try.prog 9 #[.string ⟨#[65, 49, 42, 50]⟩] V fun e w' => ∃ (x : T) (lv : Value) (pa pe : Int), e = .returned (.tuple #[aggX x lv, .int .i64 pa, .int .i64 pe]) ∧ IsL w' (wr.heap.size ≤ ·) lv x.l ∧ Ext V w' ∧ x = xtL 1) := fun V e => by
         have c1 := rformula_any ⟨#[65, 49, 42, 50]⟩ V (by decide)
         unfold RFormQ at c1
         rw [show (⟨#[65, 49, 42, 50]⟩ : ByteArray).data.toList = [65, 49, 42, 50] from rfl, liveR_par0] at c1
         refine c1.mono ?_
         rintro ee w' ⟨x, lv, pa, pe, h1, h2, h3, h4⟩
         rw [if_pos rfl] at h4
         exact ⟨x, lv, pa, pe, h1, h2.mono (fun b hb _ => Nat.le_trans e.size hb), h3, h4.1⟩
       subst hk0
       go_wp2_with fail
       refine (HC1.out _ ((Ext.refl _).alloc _)).mono ?_
       rintro e w1 ⟨x, lv, pa, pe, rfl, L1, E1, hx⟩
       obtain ⟨xp, xc, hlv, _hcl⟩ := L1.form
       obtain ⟨xn, hxn⟩ : ∃ xn, x.l.length = xn := ⟨_, rfl⟩
       rw [hxn] at hlv
       subst hlv
       have X1 : Ext wr w1 := ((Ext.refl _).alloc _).trans E1
       have cF := fun V (e : Ext w1 V) => rcell_any (1) 2 x xp xn xc (bs (shT 2 x)) (by rw [bs_size, hx]; have := (liveR_well 1 (by decide)).2; omega) V (fun U eU => by
         have := liveR_show 1 (by decide) U _ xp xn xc (by rw [← hx]; exact (L1.ext (e.trans eU)))
         rw [← hx] at this
         exact this)
       have H1 : Hid (Ext wr w1 ∧ IsL w1 (wr.heap.size ≤ ·) (.slice xp xn xc) x.l ∧ x = xtL 1) := ⟨X1, L1, hx⟩
       have RX : Hid (∀ V, Ext (w1.alloc (.cells #[.int .i64 x.k, .int .i64 x.n, .string (bs x.s), .int .i64 x.e, .int .i64 x.r.1, .int .i64 x.r.2.1, .bool x.r.2.2.1, .bool x.r.2.2.2, .int .i64 x.q.1, .int .i64 x.q.2.1, .bool x.q.2.2.1, .bool x.q.2.2.2, .slice xp xn xc] 29)) V → V.rangeAt w1.heap.size 0 [.int .i64 x.k, .int .i64 x.n, .string (bs x.s), .int .i64 x.e, .int .i64 x.r.1, .int .i64 x.r.2.1, .bool x.r.2.2.1, .bool x.r.2.2.2, .int .i64 x.q.1, .int .i64 x.q.2.1, .bool x.q.2.2.1, .bool x.q.2.2.2, .slice xp xn xc]) := fun V e => rng_top e
       clear HC1 L1 E1 X1 hx hxn _hcl
       unfold aggX
       go_wp2_with (first | (refine wpList_storeN _ rfl _ _ 29 rfl _ _ rfl rfl (by kernel_rfl) (by rfl) (by simp [Value.oneCell']) ?_) | (refine wpList_load_mid rfl 29 _ rfl w1.heap.size 0 rfl _ _ (RX.out _ (Ext.refl _)) Try.underlying29 rfl (by kernel_rfl) ?_))
       refine (cF _ ((Ext.refl _).alloc _)).mono ?_
       rintro e w2 ⟨rfl, E2⟩
       obtain ⟨c, hc⟩ : ∃ c, fcl (1) 2 x (bs (shT 2 x)) = c := ⟨_, rfl⟩
       have HC : Hid (c.row = (0 : Int) + 1 ∧ c.col = 2 ∧ c.is = true ∧ c.x = x) := by rw [← hc]; exact ⟨rfl, rfl, rfl, rfl⟩
       have H2 : Hid (Ext wr w2 ∧ IsL w2 (wr.heap.size ≤ ·) (.slice xp xn xc) x.l) := ⟨H1.out.1.trans (((Ext.refl _).alloc _).trans E2), H1.out.2.1.ext (((Ext.refl _).alloc _).trans E2)⟩
       rw [hc]
       unfold aggC
       clear cF E2 hc RX
       go_wp2_with (at_builtin; refine app_g eltCl cCV_len cCV_one (by decide) _ w _ _ _ _ 0 1 ps [((c, (xp, xn, xc)) : ClV)] w.heap.size rfl rfl (by rfl) (by rfl) (ownsRow_ext HS.out.o (H2.out.1.alloc _)) rfl (rd_oneCl (W := w2) (c := c) (p := xp) (n := xn) (m := xc) (Ext.refl _)) (by omega) ((HS.out.e.trans H2.out.1).alloc _) (Nat.le_refl _) ((HS.out.e.trans H2.out.1).alloc _).size ?_; intro v9 w9 O9 E9 G9 N9; have H9 : Hid (LvS w w9 v9 (0 + 1) (ps ++ [((c, (xp, xn, xc)) : ClV)])) := HS.out.add (H2.out.1.alloc _) O9 E9 G9 (N9.imp id (fun h => ⟨_, h, Nat.le_refl _⟩)) (by rw [HC.out.2.2.2]; exact H2.out.2.ext ((Ext.refl _).alloc _)) ⟨HC.out.1, HC.out.2.1, HC.out.2.2.1, by rw [HC.out.2.2.2, H1.out.2.2]; rfl⟩; clear O9 E9 G9 N9)
       go_roundw
       case rel => exact ⟨0 + 1, _, rfl, by omega, H9.out⟩
       case measure => first | decide | (simp [intOf])
     · have HC1 : Hid (∀ V, Ext wr V → Calls Try.prog 9 #[.string ⟨#[65, 50, 42, 50]⟩] V fun e w' => ∃ (x : T) (lv : Value) (pa pe : Int), e = .returned (.tuple #[aggX x lv, .int .i64 pa, .int .i64 pe]) ∧ IsL w' (wr.heap.size ≤ ·) lv x.l ∧ Ext V w' ∧ x = xtL 2) := fun V e => by
         have c1 := rformula_any ⟨#[65, 50, 42, 50]⟩ V (by decide)
         unfold RFormQ at c1
         rw [show (⟨#[65, 50, 42, 50]⟩ : ByteArray).data.toList = [65, 50, 42, 50] from rfl, liveR_par1] at c1
         refine c1.mono ?_
         rintro ee w' ⟨x, lv, pa, pe, h1, h2, h3, h4⟩
         rw [if_pos rfl] at h4
         exact ⟨x, lv, pa, pe, h1, h2.mono (fun b hb _ => Nat.le_trans e.size hb), h3, h4.1⟩
       subst hk1
       go_wp2_with fail
       refine (HC1.out _ ((Ext.refl _).alloc _)).mono ?_
       rintro e w1 ⟨x, lv, pa, pe, rfl, L1, E1, hx⟩
       obtain ⟨xp, xc, hlv, _hcl⟩ := L1.form
       obtain ⟨xn, hxn⟩ : ∃ xn, x.l.length = xn := ⟨_, rfl⟩
       rw [hxn] at hlv
       subst hlv
       have X1 : Ext wr w1 := ((Ext.refl _).alloc _).trans E1
       have cF := fun V (e : Ext w1 V) => rcell_any (2) 2 x xp xn xc (bs (shT 2 x)) (by rw [bs_size, hx]; have := (liveR_well 2 (by decide)).2; omega) V (fun U eU => by
         have := liveR_show 2 (by decide) U _ xp xn xc (by rw [← hx]; exact (L1.ext (e.trans eU)))
         rw [← hx] at this
         exact this)
       have H1 : Hid (Ext wr w1 ∧ IsL w1 (wr.heap.size ≤ ·) (.slice xp xn xc) x.l ∧ x = xtL 2) := ⟨X1, L1, hx⟩
       have RX : Hid (∀ V, Ext (w1.alloc (.cells #[.int .i64 x.k, .int .i64 x.n, .string (bs x.s), .int .i64 x.e, .int .i64 x.r.1, .int .i64 x.r.2.1, .bool x.r.2.2.1, .bool x.r.2.2.2, .int .i64 x.q.1, .int .i64 x.q.2.1, .bool x.q.2.2.1, .bool x.q.2.2.2, .slice xp xn xc] 29)) V → V.rangeAt w1.heap.size 0 [.int .i64 x.k, .int .i64 x.n, .string (bs x.s), .int .i64 x.e, .int .i64 x.r.1, .int .i64 x.r.2.1, .bool x.r.2.2.1, .bool x.r.2.2.2, .int .i64 x.q.1, .int .i64 x.q.2.1, .bool x.q.2.2.1, .bool x.q.2.2.2, .slice xp xn xc]) := fun V e => rng_top e
       clear HC1 L1 E1 X1 hx hxn _hcl
       unfold aggX
       go_wp2_with (first | (refine wpList_storeN _ rfl _ _ 29 rfl _ _ rfl rfl (by kernel_rfl) (by rfl) (by simp [Value.oneCell']) ?_) | (refine wpList_load_mid rfl 29 _ rfl w1.heap.size 0 rfl _ _ (RX.out _ (Ext.refl _)) Try.underlying29 rfl (by kernel_rfl) ?_))
       refine (cF _ ((Ext.refl _).alloc _)).mono ?_
       rintro e w2 ⟨rfl, E2⟩
       obtain ⟨c, hc⟩ : ∃ c, fcl (2) 2 x (bs (shT 2 x)) = c := ⟨_, rfl⟩
       have HC : Hid (c.row = (1 : Int) + 1 ∧ c.col = 2 ∧ c.is = true ∧ c.x = x) := by rw [← hc]; exact ⟨rfl, rfl, rfl, rfl⟩
       have H2 : Hid (Ext wr w2 ∧ IsL w2 (wr.heap.size ≤ ·) (.slice xp xn xc) x.l) := ⟨H1.out.1.trans (((Ext.refl _).alloc _).trans E2), H1.out.2.1.ext (((Ext.refl _).alloc _).trans E2)⟩
       rw [hc]
       unfold aggC
       clear cF E2 hc RX
       go_wp2_with (at_builtin; refine app_g eltCl cCV_len cCV_one (by decide) _ w _ _ _ _ 1 1 ps [((c, (xp, xn, xc)) : ClV)] w.heap.size rfl rfl (by rfl) (by rfl) (ownsRow_ext HS.out.o (H2.out.1.alloc _)) rfl (rd_oneCl (W := w2) (c := c) (p := xp) (n := xn) (m := xc) (Ext.refl _)) (by omega) ((HS.out.e.trans H2.out.1).alloc _) (Nat.le_refl _) ((HS.out.e.trans H2.out.1).alloc _).size ?_; intro v9 w9 O9 E9 G9 N9; have H9 : Hid (LvS w w9 v9 (1 + 1) (ps ++ [((c, (xp, xn, xc)) : ClV)])) := HS.out.add (H2.out.1.alloc _) O9 E9 G9 (N9.imp id (fun h => ⟨_, h, Nat.le_refl _⟩)) (by rw [HC.out.2.2.2]; exact H2.out.2.ext ((Ext.refl _).alloc _)) ⟨HC.out.1, HC.out.2.1, HC.out.2.2.1, by rw [HC.out.2.2.2, H1.out.2.2]; rfl⟩; clear O9 E9 G9 N9)
       go_roundw
       case rel => exact ⟨1 + 1, _, rfl, by omega, H9.out⟩
       case measure => first | decide | (simp [intOf])
     · have HC1 : Hid (∀ V, Ext wr V → Calls Try.prog 9 #[.string ⟨#[65, 51, 42, 50]⟩] V fun e w' => ∃ (x : T) (lv : Value) (pa pe : Int), e = .returned (.tuple #[aggX x lv, .int .i64 pa, .int .i64 pe]) ∧ IsL w' (wr.heap.size ≤ ·) lv x.l ∧ Ext V w' ∧ x = xtL 3) := fun V e => by
         have c1 := rformula_any ⟨#[65, 51, 42, 50]⟩ V (by decide)
         unfold RFormQ at c1
         rw [show (⟨#[65, 51, 42, 50]⟩ : ByteArray).data.toList = [65, 51, 42, 50] from rfl, liveR_par2] at c1
         refine c1.mono ?_
         rintro ee w' ⟨x, lv, pa, pe, h1, h2, h3, h4⟩
         rw [if_pos rfl] at h4
         exact ⟨x, lv, pa, pe, h1, h2.mono (fun b hb _ => Nat.le_trans e.size hb), h3, h4.1⟩
       subst hk2
       go_wp2_with fail
       refine (HC1.out _ ((Ext.refl _).alloc _)).mono ?_
       rintro e w1 ⟨x, lv, pa, pe, rfl, L1, E1, hx⟩
       obtain ⟨xp, xc, hlv, _hcl⟩ := L1.form
       obtain ⟨xn, hxn⟩ : ∃ xn, x.l.length = xn := ⟨_, rfl⟩
       rw [hxn] at hlv
       subst hlv
       have X1 : Ext wr w1 := ((Ext.refl _).alloc _).trans E1
       have cF := fun V (e : Ext w1 V) => rcell_any (3) 2 x xp xn xc (bs (shT 2 x)) (by rw [bs_size, hx]; have := (liveR_well 3 (by decide)).2; omega) V (fun U eU => by
         have := liveR_show 3 (by decide) U _ xp xn xc (by rw [← hx]; exact (L1.ext (e.trans eU)))
         rw [← hx] at this
         exact this)
       have H1 : Hid (Ext wr w1 ∧ IsL w1 (wr.heap.size ≤ ·) (.slice xp xn xc) x.l ∧ x = xtL 3) := ⟨X1, L1, hx⟩
       have RX : Hid (∀ V, Ext (w1.alloc (.cells #[.int .i64 x.k, .int .i64 x.n, .string (bs x.s), .int .i64 x.e, .int .i64 x.r.1, .int .i64 x.r.2.1, .bool x.r.2.2.1, .bool x.r.2.2.2, .int .i64 x.q.1, .int .i64 x.q.2.1, .bool x.q.2.2.1, .bool x.q.2.2.2, .slice xp xn xc] 29)) V → V.rangeAt w1.heap.size 0 [.int .i64 x.k, .int .i64 x.n, .string (bs x.s), .int .i64 x.e, .int .i64 x.r.1, .int .i64 x.r.2.1, .bool x.r.2.2.1, .bool x.r.2.2.2, .int .i64 x.q.1, .int .i64 x.q.2.1, .bool x.q.2.2.1, .bool x.q.2.2.2, .slice xp xn xc]) := fun V e => rng_top e
       clear HC1 L1 E1 X1 hx hxn _hcl
       unfold aggX
       go_wp2_with (first | (refine wpList_storeN _ rfl _ _ 29 rfl _ _ rfl rfl (by kernel_rfl) (by rfl) (by simp [Value.oneCell']) ?_) | (refine wpList_load_mid rfl 29 _ rfl w1.heap.size 0 rfl _ _ (RX.out _ (Ext.refl _)) Try.underlying29 rfl (by kernel_rfl) ?_))
       refine (cF _ ((Ext.refl _).alloc _)).mono ?_
       rintro e w2 ⟨rfl, E2⟩
       obtain ⟨c, hc⟩ : ∃ c, fcl (3) 2 x (bs (shT 2 x)) = c := ⟨_, rfl⟩
       have HC : Hid (c.row = (2 : Int) + 1 ∧ c.col = 2 ∧ c.is = true ∧ c.x = x) := by rw [← hc]; exact ⟨rfl, rfl, rfl, rfl⟩
       have H2 : Hid (Ext wr w2 ∧ IsL w2 (wr.heap.size ≤ ·) (.slice xp xn xc) x.l) := ⟨H1.out.1.trans (((Ext.refl _).alloc _).trans E2), H1.out.2.1.ext (((Ext.refl _).alloc _).trans E2)⟩
       rw [hc]
       unfold aggC
       clear cF E2 hc RX
       go_wp2_with (at_builtin; refine app_g eltCl cCV_len cCV_one (by decide) _ w _ _ _ _ 2 1 ps [((c, (xp, xn, xc)) : ClV)] w.heap.size rfl rfl (by rfl) (by rfl) (ownsRow_ext HS.out.o (H2.out.1.alloc _)) rfl (rd_oneCl (W := w2) (c := c) (p := xp) (n := xn) (m := xc) (Ext.refl _)) (by omega) ((HS.out.e.trans H2.out.1).alloc _) (Nat.le_refl _) ((HS.out.e.trans H2.out.1).alloc _).size ?_; intro v9 w9 O9 E9 G9 N9; have H9 : Hid (LvS w w9 v9 (2 + 1) (ps ++ [((c, (xp, xn, xc)) : ClV)])) := HS.out.add (H2.out.1.alloc _) O9 E9 G9 (N9.imp id (fun h => ⟨_, h, Nat.le_refl _⟩)) (by rw [HC.out.2.2.2]; exact H2.out.2.ext ((Ext.refl _).alloc _)) ⟨HC.out.1, HC.out.2.1, HC.out.2.2.1, by rw [HC.out.2.2.2, H1.out.2.2]; rfl⟩; clear O9 E9 G9 N9)
       go_roundw
       case rel => exact ⟨2 + 1, _, rfl, by omega, H9.out⟩
       case measure => first | decide | (simp [intOf])
     · have HC1 : Hid (∀ V, Ext wr V → Calls Try.prog 9 #[.string ⟨#[65, 52, 42, 50]⟩] V fun e w' => ∃ (x : T) (lv : Value) (pa pe : Int), e = .returned (.tuple #[aggX x lv, .int .i64 pa, .int .i64 pe]) ∧ IsL w' (wr.heap.size ≤ ·) lv x.l ∧ Ext V w' ∧ x = xtL 4) := fun V e => by
         have c1 := rformula_any ⟨#[65, 52, 42, 50]⟩ V (by decide)
         unfold RFormQ at c1
         rw [show (⟨#[65, 52, 42, 50]⟩ : ByteArray).data.toList = [65, 52, 42, 50] from rfl, liveR_par3] at c1
         refine c1.mono ?_
         rintro ee w' ⟨x, lv, pa, pe, h1, h2, h3, h4⟩
         rw [if_pos rfl] at h4
         exact ⟨x, lv, pa, pe, h1, h2.mono (fun b hb _ => Nat.le_trans e.size hb), h3, h4.1⟩
       subst hk3
       go_wp2_with fail
       refine (HC1.out _ ((Ext.refl _).alloc _)).mono ?_
       rintro e w1 ⟨x, lv, pa, pe, rfl, L1, E1, hx⟩
       obtain ⟨xp, xc, hlv, _hcl⟩ := L1.form
       obtain ⟨xn, hxn⟩ : ∃ xn, x.l.length = xn := ⟨_, rfl⟩
       rw [hxn] at hlv
       subst hlv
       have X1 : Ext wr w1 := ((Ext.refl _).alloc _).trans E1
       have cF := fun V (e : Ext w1 V) => rcell_any (4) 2 x xp xn xc (bs (shT 2 x)) (by rw [bs_size, hx]; have := (liveR_well 4 (by decide)).2; omega) V (fun U eU => by
         have := liveR_show 4 (by decide) U _ xp xn xc (by rw [← hx]; exact (L1.ext (e.trans eU)))
         rw [← hx] at this
         exact this)
       have H1 : Hid (Ext wr w1 ∧ IsL w1 (wr.heap.size ≤ ·) (.slice xp xn xc) x.l ∧ x = xtL 4) := ⟨X1, L1, hx⟩
       have RX : Hid (∀ V, Ext (w1.alloc (.cells #[.int .i64 x.k, .int .i64 x.n, .string (bs x.s), .int .i64 x.e, .int .i64 x.r.1, .int .i64 x.r.2.1, .bool x.r.2.2.1, .bool x.r.2.2.2, .int .i64 x.q.1, .int .i64 x.q.2.1, .bool x.q.2.2.1, .bool x.q.2.2.2, .slice xp xn xc] 29)) V → V.rangeAt w1.heap.size 0 [.int .i64 x.k, .int .i64 x.n, .string (bs x.s), .int .i64 x.e, .int .i64 x.r.1, .int .i64 x.r.2.1, .bool x.r.2.2.1, .bool x.r.2.2.2, .int .i64 x.q.1, .int .i64 x.q.2.1, .bool x.q.2.2.1, .bool x.q.2.2.2, .slice xp xn xc]) := fun V e => rng_top e
       clear HC1 L1 E1 X1 hx hxn _hcl
       unfold aggX
       go_wp2_with (first | (refine wpList_storeN _ rfl _ _ 29 rfl _ _ rfl rfl (by kernel_rfl) (by rfl) (by simp [Value.oneCell']) ?_) | (refine wpList_load_mid rfl 29 _ rfl w1.heap.size 0 rfl _ _ (RX.out _ (Ext.refl _)) Try.underlying29 rfl (by kernel_rfl) ?_))
       refine (cF _ ((Ext.refl _).alloc _)).mono ?_
       rintro e w2 ⟨rfl, E2⟩
       obtain ⟨c, hc⟩ : ∃ c, fcl (4) 2 x (bs (shT 2 x)) = c := ⟨_, rfl⟩
       have HC : Hid (c.row = (3 : Int) + 1 ∧ c.col = 2 ∧ c.is = true ∧ c.x = x) := by rw [← hc]; exact ⟨rfl, rfl, rfl, rfl⟩
       have H2 : Hid (Ext wr w2 ∧ IsL w2 (wr.heap.size ≤ ·) (.slice xp xn xc) x.l) := ⟨H1.out.1.trans (((Ext.refl _).alloc _).trans E2), H1.out.2.1.ext (((Ext.refl _).alloc _).trans E2)⟩
       rw [hc]
       unfold aggC
       clear cF E2 hc RX
       go_wp2_with (at_builtin; refine app_g eltCl cCV_len cCV_one (by decide) _ w _ _ _ _ 3 1 ps [((c, (xp, xn, xc)) : ClV)] w.heap.size rfl rfl (by rfl) (by rfl) (ownsRow_ext HS.out.o (H2.out.1.alloc _)) rfl (rd_oneCl (W := w2) (c := c) (p := xp) (n := xn) (m := xc) (Ext.refl _)) (by omega) ((HS.out.e.trans H2.out.1).alloc _) (Nat.le_refl _) ((HS.out.e.trans H2.out.1).alloc _).size ?_; intro v9 w9 O9 E9 G9 N9; have H9 : Hid (LvS w w9 v9 (3 + 1) (ps ++ [((c, (xp, xn, xc)) : ClV)])) := HS.out.add (H2.out.1.alloc _) O9 E9 G9 (N9.imp id (fun h => ⟨_, h, Nat.le_refl _⟩)) (by rw [HC.out.2.2.2]; exact H2.out.2.ext ((Ext.refl _).alloc _)) ⟨HC.out.1, HC.out.2.1, HC.out.2.2.1, by rw [HC.out.2.2.2, H1.out.2.2]; rfl⟩; clear O9 E9 G9 N9)
       go_roundw
       case rel => exact ⟨3 + 1, _, rfl, by omega, H9.out⟩
       case measure => first | decide | (simp [intOf])
   · have hk4 : k = 4 := by omega
     have hltI : (4 : Int) < (k : Int) + 1 := by omega
     have cF := find_any 2 (ps.map Prod.fst) wr (.slice yp k yc) (rdC_of (own_rdG cCV_len HS.out.o HS.out.n.symm) (fun p hp => (HS.out.i p hp).mono (fun b _ hb => hb))) (by rw [List.length_map, HS.out.n]; omega) (fun c hc => by
       obtain ⟨j, hj⟩ := List.mem_iff_getElem?.1 hc
       rw [(HS.out.f j c hj).2.2.2]
       exact liveR_hr _ 0) (hr_leaf 1 _ rfl)
     rw [liveR_find (ps.map Prod.fst) (by rw [List.length_map, HS.out.n, hk4]) HS.out.f] at cF
     clear hk hge hk4
     go_wp2_with fail
     refine cF.mono ?_
     rintro e w2 ⟨v2, rfl, R2, E2⟩
     obtain ⟨zp, zc, rfl, _hz⟩ := R2.form
     have HR2 : Hid (RdRn w2 (.slice zp 1 zc) [(2, 1, 4)] ∧ Ext w w2) := ⟨R2, HS.out.e.trans E2⟩
     have cS := fun V (e : Ext w2 V) u (hu : RdRn V u [(2, 1, 4)]) => rgsame_any V (.slice zp 1 zc) u [(2, 1, 4)] [(2, 1, 4)] (R2.ext e) hu (by simp)
     clear cF R2 E2 _hz
     go_wp2_with fail
     refine (cS _ ((Ext.refl _).alloc _) _ (rd_oneRn (x := (2, 1, 4)) (Ext.refl _))).mono ?_
     rintro e w3 ⟨rfl, E3⟩
     have HE3 : Hid (Ext w w3) := HR2.out.2.trans (((Ext.refl _).alloc _).trans E3)
     clear cS E3
     go_wp2_with fail
     go_ret
     exact ⟨ret_bool (by simp), HE3.out⟩
open Go.ChangeShapes Go.WideShapes Go.RowKit
open Go.Joins (trod_struct4)
open Go.Deep (choose_lt)
set_option maxHeartbeats 2000000
instance : Inhabited Cl := ⟨clz⟩
theorem list21 {α : Type} {cs : List α} (h : cs.length = 21) : ∃ c0 c1 c2 c3 c4 c5 c6 c7 c8 c9 c10 c11 c12 c13 c14 c15 c16 c17 c18 c19 c20, cs = [c0, c1, c2, c3, c4, c5, c6, c7, c8, c9, c10, c11, c12, c13, c14, c15, c16, c17, c18, c19, c20] := by
 match cs, h with
 | [c0, c1, c2, c3, c4, c5, c6, c7, c8, c9, c10, c11, c12, c13, c14, c15, c16, c17, c18, c19, c20], _ => exact ⟨_, _, _, _, _, _, _, _, _, _, _, _, _, _, _, _, _, _, _, _, _, rfl⟩
theorem cells_cl : Try.prog.cellsOf 33 = 21 := by kernel_rfl
theorem cells_vl : Try.prog.cellsOf 31 = 4 := by kernel_rfl
section
variable {H : Type} {enc : TypeId × Value → H} {w : World} {base : Nat} {sp : Nat → Bool} {hd : Bool}
theorem open_vl {fuel : Nat} {c0 c1 c2 c3 : Value} {x : DataW H × List MemPlace} (h : DataW.trod enc Try.prog w base sp hd fuel 31 [c0, c1, c2, c3] = some x) :
   ∃ (k n : Int) (s : ByteArray) (e : Int), c0 = .int .i64 k ∧ c1 = .int .i64 n ∧ c2 = .string s ∧ c3 = .int .i64 e := by
 obtain ⟨y0, y1, y2, y3, n, _, _, h0, h1, h2, h3⟩ := trod_struct4 Try.underlying31 h
 simp [cells_i, cells_i64, cells_st] at h0 h1 h2 h3
 obtain ⟨a0, e0, _, _⟩ := DataW.trod_int Try.underlying3 h0
 obtain ⟨a1, e1, _, _⟩ := DataW.trod_int Try.underlying2 h1
 obtain ⟨a2, e2, _, _⟩ := DataW.trod_string Try.underlying9 h2
 obtain ⟨a3, e3, _, _⟩ := DataW.trod_int Try.underlying3 h3
 simp only [List.cons.injEq, and_true] at e0 e1 e2 e3
 exact ⟨a0, a1, a2, a3, e0, e1, e2, e3⟩
def ClI (c : Cl) : Prop := I64 c.row ∧ I64 c.col ∧ Wf c.x
set_option maxRecDepth 100000 in
theorem open_cl {fuel : Nat} {cs : List Value} {x : DataW H × List MemPlace} (hl : cs.length = 21) (h : DataW.trod enc Try.prog w base sp hd fuel 33 cs = some x) :
   ∃ (y : Cl) (lv : Value), cs = cC y lv ∧ IsL w (fun _ => True) lv y.x.l ∧ ClI y := by
 obtain ⟨xs, n, rfl, _, hlen, hxl, hf⟩ := DataW.trod_struct Try.underlying33 h
 obtain ⟨c0, c1, c2, c3, c4, c5, c6, c7, c8, c9, c10, c11, c12, c13, c14, c15, c16, c17, c18, c19, c20, rfl⟩ := list21 hl
 have hx : ∀ i, i < 6 → ∃ y, xs[i]? = some y := fun i hi => ⟨_, List.getElem?_eq_getElem (by rw [hxl]; exact hi)⟩
 obtain ⟨y0, g0⟩ := hx 0 (by decide)
 obtain ⟨y1, g1⟩ := hx 1 (by decide)
 obtain ⟨y2, g2⟩ := hx 2 (by decide)
 obtain ⟨y3, g3⟩ := hx 3 (by decide)
 obtain ⟨y4, g4⟩ := hx 4 (by decide)
 obtain ⟨y5, g5⟩ := hx 5 (by decide)
 have f0 := (hf 0 _ rfl).trans g0
 have f1 := (hf 1 _ rfl).trans g1
 have f2 := (hf 2 _ rfl).trans g2
 have f3 := (hf 3 _ rfl).trans g3
 have f4 := (hf 4 _ rfl).trans g4
 have f5 := (hf 5 _ rfl).trans g5
 simp [cells_i, cells_bl, cells_st, cells_exp, cells_vl] at f0 f1 f2 f3 f4 f5
 obtain ⟨a0, e0, _, w0⟩ := DataW.trod_int Try.underlying3 f0
 obtain ⟨a1, e1, _, w1⟩ := DataW.trod_int Try.underlying3 f1
 obtain ⟨a2, e2, _, _⟩ := DataW.trod_string Try.underlying9 f2
 obtain ⟨a3, e3, _⟩ := DataW.trod_bool Try.underlying4 f3
 obtain ⟨t, lv, ht, hL, hW⟩ := open_exp _ _ _ f4
 obtain ⟨k, nn, s, e, v0, v1, v2, v3⟩ := open_vl f5
 simp only [List.cons.injEq, and_true] at e0 e1 e2 e3
 unfold cellsT at ht
 simp only [List.cons.injEq, and_true] at ht
 obtain ⟨t0, t1, t2, t3, t4, t5, t6, t7, t8, t9, t10, t11, t12⟩ := ht
 subst e0 e1 e2 e3 t0 t1 t2 t3 t4 t5 t6 t7 t8 t9 t10 t11 t12 v0 v1 v2 v3
 exact ⟨⟨a0, a1, a2, a3, t, k, nn, s, e⟩, c16, rfl, hL, i64_of_wf w0, i64_of_wf w1, hW⟩
theorem open_cls {fuel : Nat} {c : Value} {x : DataW H × List MemPlace} (h : DataW.trod enc Try.prog w base sp hd fuel 22 [c] = some x) :
   ∃ l, RdC w.heap.size w c l ∧ (∀ y ∈ l, ClI y) ∧ l.length ≤ maxLen := by
 rcases DataW.trod_slice Try.underlying22 h with ⟨e6, _⟩ | ⟨a, len, cap, elems, rest, n', hn', e6, _, hb, hl, hm, hel, hx, _, _⟩
 · simp only [List.cons.injEq, and_true] at e6
   subst e6
   exact ⟨[], ⟨none, 0, rfl, Nat.le_refl _, .inl rfl⟩, (fun r hr => by cases hr), by simp⟩
 · simp only [List.cons.injEq, and_true] at e6
   subst e6
   rw [cells_cl] at hx
   have each : ∀ i, i < len → ∃ p : Cl × Value, (∀ j u, (cC p.1 p.2)[j]? = some u → w.cell? ((a.add (i * 21)).add j) = some u) ∧ IsL w (fun _ => True) p.2 p.1.x.l ∧ ClI p.1 := by
     intro i hi
     have h0 := hx i hi
     rw [List.getElem?_eq_getElem (show i < elems.length by omega)] at h0
     obtain ⟨cs', h1, h2⟩ := Option.bind_eq_some_iff.1 h0
     obtain ⟨_, k1, k2⟩ := World.cells?_some h1
     obtain ⟨y, lv, rfl, hL, hI⟩ := open_cl (by simpa using k1) h2
     refine ⟨(y, lv), fun j u hu => ?_, hL, hI⟩
     rw [← hu]
     refine k2 j ?_
     have := (List.getElem?_eq_some_iff.1 hu).1
     rw [← k1]; exact this
   obtain ⟨f, hf⟩ := choose_lt each
   by_cases h0 : len = 0
   · subst h0
     exact ⟨[], ⟨_, _, rfl, by simp, .inl rfl⟩, (fun r hr => by cases hr), by simp⟩
   obtain ⟨b, off, spot⟩ := a
   have hz := (hf 0 (by omega)).1 0 _ rfl
   have hspot : spot = none := by simpa [Addr.add] using World.cell?_spot hz
   subst hspot
   have hblt : b < w.heap.size := World.block_lt_of_cell? _ _ hz
   have hgl : ((List.range len).map (fun i => (f i).1)).length = len := by simp
   refine ⟨(List.range len).map (fun i => (f i).1), ⟨_, cap, by rw [hgl], by omega, .inr ⟨b, off, fun i => (f i).2, rfl, hblt, fun i r j u hi hj => ?_, fun i r hi => ?_⟩⟩, ?_, by simp; omega⟩
   · have hi' : i < len := by
       have := (List.getElem?_eq_some_iff.1 hi).1
       simpa using this
     rw [List.getElem?_map, List.getElem?_range hi'] at hi
     simp at hi
     subst hi
     have := (hf i hi').1 j u hj
     simp only [Addr.add_lit] at this
     exact this
   · have hi' : i < len := by
       have := (List.getElem?_eq_some_iff.1 hi).1
       simpa using this
     rw [List.getElem?_map, List.getElem?_range hi'] at hi
     simp at hi
     subst hi
     exact (hf i hi').2.1.mono (fun _ _ h => h)
   · intro r hr
     obtain ⟨i, hi, rfl⟩ := List.mem_map.1 hr
     exact (hf i (List.mem_range.1 hi)).2.2
end
theorem RdC.part {B : Nat} {W : World} {p : Option Addr} {n c : Nat} {l : List Cl} (h : RdC B W (.slice p n c) l) {m : Nat} (hm : m ≤ n) : RdC B W (.slice p m c) (l.take m) := by
 obtain ⟨p', c', h1, h2, h3⟩ := h
 cases h1
 have hl : (l.take m).length = m := by rw [List.length_take]; omega
 refine ⟨p, c, by rw [hl], by rw [hl]; omega, ?_⟩
 rcases h3 with rfl | ⟨b, off, lvs, rfl, hb, h4, h5⟩
 · exact .inl (by simp)
 · have key : ∀ i x, (l.take m)[i]? = some x → l[i]? = some x := fun i x hi => by
     rw [List.getElem?_take] at hi
     split at hi
     · exact hi
     · cases hi
   exact .inr ⟨b, off, lvs, rfl, hb, fun i x j u hi hj => h4 i x j u (key i x hi) hj, fun i x hi => h5 i x (key i x hi)⟩
theorem RdC.ps {B : Nat} {W : World} {v : Value} {l : List Cl} (h : RdC B W v l) : ∃ ps : List ClV, ps.map Prod.fst = l ∧ RdG cCV 21 W v ps ∧ ∀ p ∈ ps, IsL W (fun k => k < B) p.lv p.1.x.l := by
 obtain ⟨p, c, rfl, hc, h3⟩ := h
 rcases h3 with rfl | ⟨b, off, lvs, rfl, hb, h4, h5⟩
 · exact ⟨[], rfl, ⟨p, c, rfl, hc, .inl rfl⟩, fun p hp => by cases hp⟩
 · have each : ∀ i, i < l.length → ∃ q : Option Addr × Nat × Nat, lvs i = .slice q.1 q.2.1 q.2.2 := fun i hi => by
     obtain ⟨a, e, he, _⟩ := (h5 i _ (List.getElem?_eq_getElem hi)).form
     exact ⟨(a, _, e), he⟩
   obtain ⟨f, hf⟩ := choose_lt each
   have hlen : ((List.range l.length).map (fun i => ((clA l i, f i) : ClV))).length = l.length := by simp
   have hat : ∀ i (x : ClV), ((List.range l.length).map (fun i => ((clA l i, f i) : ClV)))[i]? = some x → i < l.length ∧ l[i]? = some x.1 ∧ x.lv = lvs i := fun i x hi => by
     have hi' : i < l.length := by
       have := (List.getElem?_eq_some_iff.1 hi).1
       simpa using this
     rw [List.getElem?_map, List.getElem?_range hi'] at hi
     simp at hi
     subst hi
     have e : l[i]? = some l[i] := List.getElem?_eq_getElem hi'
     refine ⟨hi', by rw [clA_get e]; exact e, (hf i hi').symm⟩
   refine ⟨_, ?_, ⟨_, c, by rw [hlen], by rw [hlen]; exact hc, .inr ⟨b, off, rfl, hb, fun i x j u hi hj => ?_⟩⟩, fun x hx => ?_⟩
   · refine List.ext_getElem? (fun i => ?_)
     by_cases hi : i < l.length
     · have e : l[i]? = some l[i] := List.getElem?_eq_getElem hi
       rw [List.getElem?_map, List.getElem?_map, List.getElem?_range hi, e]
       simp [clA_get e]
     · rw [List.getElem?_eq_none (by simp; omega), List.getElem?_eq_none (by omega)]
   · obtain ⟨_, h6, h7⟩ := hat i x hi
     exact h4 i x.1 j u h6 (by rw [← h7]; exact hj)
   · obtain ⟨i, hi⟩ := List.mem_iff_getElem?.1 hx
     obtain ⟨_, h6, h7⟩ := hat i x hi
     rw [h7]
     exact h5 i x.1 h6
open Go.RowKit
def atP (l : List Cl) (r k : Int) : Option Cl := l.find? (fun c => decide (c.row = r) && decide (c.col = k) && c.is)
def onP (A : Cl → Cl → Bool) (l : List Cl) (r k : Int) : Bool := match atP l r k, atP l (r + 1) k with
 | some a, some b => A a b
 | _, _ => false
def atC (C : List Cl) (r : Int) : Option Cl := C.find? (fun c => decide (c.row = r))
def onC (A : Cl → Cl → Bool) (C : List Cl) (r : Int) : Bool := match atC C r, atC C (r + 1) with
 | some a, some b => A a b
 | _, _ => false
def clsP (l : List Cl) (k : Int) : List Cl := l.filter (fun c => c.is && decide (c.col = k))
theorem at_col (l : List Cl) (r k : Int) : atP l r k = atC (clsP l k) r := by
 unfold atP atC clsP
 rw [List.find?_filter]
 congr 1
 funext c
 cases c.is <;> simp [Bool.and_comm]
theorem on_col (A : Cl → Cl → Bool) (l : List Cl) (r k : Int) : onP A l r k = onC A (clsP l k) r := by
 unfold onP onC
 rw [at_col, at_col]
def IsTo (on : Int → Bool) (r t : Int) : Prop := r ≤ t ∧ (∀ i, r ≤ i → i < t → on i = true) ∧ on t = false
theorem IsTo.uniq {on : Int → Bool} {r t u : Int} (h : IsTo on r t) (g : IsTo on r u) : t = u := by
 rcases Int.lt_trichotomy t u with h1 | h1 | h1
 · have := g.2.1 t h.1 h1; rw [h.2.2] at this; cases this
 · exact h1
 · have := h.2.1 u g.1 h1; rw [g.2.2] at this; cases this
def grpP (A : Cl → Cl → Bool) (k : Int) : List Cl → List Rn
 | [] => []
 | x :: C => match C.head? with
   | none => [(k, x.row, x.row)]
   | some y => if nxB A x y then (match grpP A k C with
       | r :: R => (k, x.row, r.2.2) :: R
       | [] => []) else (k, x.row, x.row) :: grpP A k C
theorem grp_head (A : Cl → Cl → Bool) (k : Int) (x : Cl) (C : List Cl) : ∃ t R, grpP A k (x :: C) = (k, x.row, t) :: R := by
 induction C generalizing x with
 | nil => exact ⟨_, _, rfl⟩
 | cons y C ih =>
   obtain ⟨t, R, h⟩ := ih y
   rw [grpP]
   simp only [List.head?_cons]
   split
   · rw [h]; exact ⟨_, _, rfl⟩
   · exact ⟨_, _, rfl⟩
theorem grp_cons (A : Cl → Cl → Bool) (k : Int) (x y : Cl) (C : List Cl) {t : Int} {R : List Rn} (h : grpP A k (y :: C) = (k, y.row, t) :: R) : grpP A k (x :: y :: C) = if nxB A x y then (k, x.row, t) :: R else (k, x.row, x.row) :: (k, y.row, t) :: R := by
 rw [grpP]
 simp only [List.head?_cons]
 rw [h]
theorem ls_snoc (P : List Rn) (r : Rn) : lsR (P ++ [r]) = r := by unfold lsR; simp
theorem see_grp (A : Cl → Cl → Bool) (k : Int) : ∀ (C : List Cl) (x : Cl) (P : List Rn) (f : Int), (∀ c ∈ C, c.col = k) → ∀ t R, grpP A k (x :: C) = (k, x.row, t) :: R → (C.foldl (seeP A) (P ++ [(k, f, x.row)], x)).1 = P ++ (k, f, t) :: R
 | [], x, P, f, _, t, R, h => by
   have : grpP A k [x] = [(k, x.row, x.row)] := rfl
   rw [this] at h
   injection h with h1 h2
   rw [← h2]
   have : t = x.row := by injection h1 with _ h3; injection h3 with _ h4; exact h4.symm
   rw [this]; rfl
 | y :: C, x, P, f, hc, t, R, h => by
   obtain ⟨t2, R2, h2⟩ := grp_head A k y C
   rw [grp_cons A k x y C h2] at h
   rw [List.foldl_cons]
   have hk := hc y (List.mem_cons_self ..)
   rw [show seeP A (P ++ [(k, f, x.row)], x) y = ((if nxB A x y then (P ++ [(k, f, x.row)]).dropLast ++ [((lsR (P ++ [(k, f, x.row)])).1, (lsR (P ++ [(k, f, x.row)])).2.1, y.row)] else (P ++ [(k, f, x.row)]) ++ [(y.col, y.row, y.row)]), y) from rfl]
   by_cases hn : nxB A x y = true
   · rw [if_pos hn] at h
     simp only [hn, if_true]
     rw [List.dropLast_concat, ls_snoc]
     injection h with h3 h4
     injection h3 with _ h5
     injection h5 with _ h6
     rw [← h6, ← h4]
     exact see_grp A k C y P f (fun c hx => hc c (List.mem_cons_of_mem _ hx)) t2 R2 h2
   · rw [if_neg hn] at h
     simp only [hn]
     rw [hk]
     have := see_grp A k C y (P ++ [(k, f, x.row)]) y.row (fun c hx => hc c (List.mem_cons_of_mem _ hx)) t2 R2 h2
     simp only [Bool.false_eq_true, if_false] at this ⊢
     rw [this]
     injection h with h3 h4
     injection h3 with _ h5
     injection h5 with _ h6
     rw [← h4, ← h6]
     simp
theorem fold_grp (A : Cl → Cl → Bool) (k : Int) (C : List Cl) (hc : ∀ c ∈ C, c.col = k) : (C.foldl (seeP A) ([], clz)).1 = grpP A k C := by
 cases C with
 | nil => rfl
 | cons x C =>
   obtain ⟨t, R, h⟩ := grp_head A k x C
   rw [List.foldl_cons]
   have : seeP A ([], clz) x = ([] ++ [(k, x.row, x.row)], x) := by
     unfold seeP nxB
     simp [clz, hc x (List.mem_cons_self ..)]
   rw [this, see_grp A k C x [] x.row (fun c hx => hc c (List.mem_cons_of_mem _ hx)) t R h, h]
   rfl
theorem fo_col (A : Cl → Cl → Bool) (l : List Cl) (k : Int) : foP A l k = (clsP l k).foldl (seeP A) ([], clz) := by
 have : ∀ (m : List Cl) (σ : Spn), m.foldl (stP A) σ k = (clsP m k).foldl (seeP A) (σ k) := by
   intro m
   induction m with
   | nil => intro σ; rfl
   | cons c m ih =>
     intro σ
     rw [List.foldl_cons, ih]
     unfold stP clsP
     cases hi : c.is with
     | false => simp [hi]
     | true =>
       by_cases hk : c.col = k
       · simp [hi, hk, putS]
       · have hk' : ¬ k = c.col := fun e => hk e.symm
         simp [hi, hk, putS, hk']
 exact this l spz
def Rise (C : List Cl) : Prop := C.Pairwise (fun a b => a.row < b.row)
theorem at_no {C : List Cl} {r : Int} (h : ∀ c ∈ C, r < c.row) : atC C r = none := by
 unfold atC
 rw [List.find?_eq_none]
 intro c hc
 have := h c hc
 simp; omega
theorem at_self (x : Cl) (C : List Cl) : atC (x :: C) x.row = some x := by unfold atC; simp
theorem at_next {x : Cl} {C : List Cl} {r : Int} (h : r ≠ x.row) : atC (x :: C) r = atC C r := by
 unfold atC
 rw [List.find?_cons_of_neg (by simpa using fun e => h e.symm)]
theorem on_low {A : Cl → Cl → Bool} {C : List Cl} {r : Int} (h : ∀ c ∈ C, r < c.row) : onC A C r = false := by
 unfold onC; rw [at_no h]
theorem on_next {A : Cl → Cl → Bool} {x : Cl} {C : List Cl} {r : Int} (h : x.row < r) : onC A (x :: C) r = onC A C r := by
 unfold onC
 rw [at_next (by omega), at_next (by omega)]
theorem on_head {A : Cl → Cl → Bool} {x y : Cl} {C : List Cl} (hx : x.is = true) (hR : Rise (x :: y :: C)) : onC A (x :: y :: C) x.row = nxB A x y := by
 have h1 : x.row < y.row := (List.pairwise_cons.1 hR).1 y (List.mem_cons_self ..)
 have h2 := (List.pairwise_cons.1 hR).2
 unfold onC nxB
 rw [at_self, hx, at_next (by omega)]
 by_cases h : x.row = y.row - 1
 · rw [show x.row + 1 = y.row by omega, at_self]
   simp [h]
 · rw [at_next (by omega), at_no (fun c hc => by have := (List.pairwise_cons.1 h2).1 c hc; omega)]
   simp [h]
theorem on_one {A : Cl → Cl → Bool} {x : Cl} : onC A [x] x.row = false := by
 unfold onC
 rw [at_self, at_next (by omega)]
 rfl
theorem grp_starts (A : Cl → Cl → Bool) (k : Int) : ∀ (C : List Cl), Rise C → (∀ c ∈ C, c.is = true) → ∀ T : Int → Int, (∀ c ∈ C, onC A C (c.row - 1) = false → IsTo (onC A C) c.row (T c.row)) →
   grpP A k C = (C.filter (fun c => !onC A C (c.row - 1))).map (fun c => (k, c.row, T c.row))
 | [], _, _, _, _ => rfl
 | [x], _, _, T, hT => by
   have h0 : onC A [x] (x.row - 1) = false := on_low (fun c hc => by simp at hc; subst hc; omega)
   have h1 := hT x (List.mem_cons_self ..) h0
   have h2 : T x.row = x.row := h1.uniq ⟨Int.le_refl _, fun i _ _ => by omega, on_one⟩
   simp [grpP, h0, h2]
 | x :: y :: C, hR, hI, T, hT => by
   have hR2 : Rise (y :: C) := (List.pairwise_cons.1 hR).2
   have hlow : ∀ c ∈ y :: C, x.row < c.row := (List.pairwise_cons.1 hR).1
   have hxy := hlow y (List.mem_cons_self ..)
   have hyC : ∀ c ∈ C, y.row < c.row := (List.pairwise_cons.1 hR2).1
   have hon := on_head (A := A) (hI x (List.mem_cons_self ..)) hR
   have hx0 : onC A (x :: y :: C) (x.row - 1) = false := on_low (fun c hc => by
     rcases List.mem_cons.1 hc with rfl | hc
     · omega
     · have := hlow c hc; omega)
   have hTx := hT x (List.mem_cons_self ..) hx0
   have hy0 : onC A (y :: C) (y.row - 1) = false := on_low (fun c hc => by
     rcases List.mem_cons.1 hc with rfl | hc
     · omega
     · have := hyC c hc; omega)
   have eqC : ∀ c ∈ C, onC A (x :: y :: C) (c.row - 1) = onC A (y :: C) (c.row - 1) := fun c hc => on_next (by have := hyC c hc; omega)
   have toC : ∀ (r t : Int), x.row < r → IsTo (onC A (x :: y :: C)) r t → IsTo (onC A (y :: C)) r t := fun r t hr h => ⟨h.1, fun i h1 h2 => by rw [← on_next (x := x) (by omega)]; exact h.2.1 i h1 h2, by rw [← on_next (x := x) (by have := h.1; omega)]; exact h.2.2⟩
   have fC : C.filter (fun c => !onC A (x :: y :: C) (c.row - 1)) = C.filter (fun c => !onC A (y :: C) (c.row - 1)) := List.filter_congr (fun c hc => by rw [eqC c hc])
   obtain ⟨t, R, hg⟩ := grp_head A k y C
   by_cases hn : nxB A x y = true
   · have hrow : x.row = y.row - 1 := by unfold nxB at hn; simp at hn; exact hn.2.1
     have hTy : IsTo (onC A (y :: C)) y.row (T x.row) := by
       rw [hn] at hon
       have hne : x.row ≠ T x.row := fun e => by have := hTx.2.2; rw [← e, hon] at this; cases this
       have h1 := hTx.1
       refine toC _ _ hxy ⟨by omega, fun i h2 h3 => hTx.2.1 i (by omega) h3, hTx.2.2⟩
     have ih := grp_starts A k (y :: C) hR2 (fun c hc => hI c (List.mem_cons_of_mem _ hc)) (fun r => if r = y.row then T x.row else T r) (fun c hc h0 => by
       rcases List.mem_cons.1 hc with rfl | hc
       · simpa using hTy
       · have h1 := hyC c hc
         rw [if_neg (by omega)]
         exact toC _ _ (by omega) (hT c (List.mem_cons_of_mem _ (List.mem_cons_of_mem _ hc)) (by rw [eqC c hc]; exact h0)))
     rw [List.filter_cons_of_pos (by simp [hy0]), List.map_cons, hg] at ih
     simp only [if_true] at ih
     injection ih with ih1 ih2
     injection ih1 with _ ih3
     injection ih3 with _ ih4
     rw [grp_cons A k x y C hg, if_pos hn, List.filter_cons_of_pos (by simp [hx0]), List.filter_cons_of_neg (by simp [show y.row - 1 = x.row by omega, hon, hn]), List.map_cons, fC, ih4, ih2]
     congr 1
     refine List.map_congr_left (fun c hc => ?_)
     have := hyC c (List.mem_filter.1 hc).1
     rw [if_neg (by omega)]
   · have hnf : nxB A x y = false := by simpa using hn
     rw [hnf] at hon
     have hTxx : T x.row = x.row := hTx.uniq ⟨Int.le_refl _, fun i _ _ => by omega, hon⟩
     have hy1 : onC A (x :: y :: C) (y.row - 1) = false := by
       by_cases e : y.row - 1 = x.row
       · rw [e]; exact hon
       · rw [on_next (by omega)]; exact hy0
     have ih := grp_starts A k (y :: C) hR2 (fun c hc => hI c (List.mem_cons_of_mem _ hc)) T (fun c hc h0 => by
       refine toC _ _ (hlow c hc) (hT c (List.mem_cons_of_mem _ hc) ?_)
       rcases List.mem_cons.1 hc with rfl | hc
       · exact hy1
       · rw [eqC c hc]; exact h0)
     have e1 : (x :: y :: C).filter (fun c => !onC A (x :: y :: C) (c.row - 1)) = x :: y :: C.filter (fun c => !onC A (y :: C) (c.row - 1)) := by
       rw [List.filter_cons_of_pos (by simp [hx0]), List.filter_cons_of_pos (by simp [hy1]), fC]
     have e2 : (y :: C).filter (fun c => !onC A (y :: C) (c.row - 1)) = y :: C.filter (fun c => !onC A (y :: C) (c.row - 1)) := by
       rw [List.filter_cons_of_pos (by simp [hy0])]
     rw [grp_cons A k x y C hg, if_neg hn, ← hg, ih, e1, e2, List.map_cons, List.map_cons, List.map_cons, hTxx]
theorem snd_rise {l : List Cl} (h : sndB l = true) (k : Int) : Rise (clsP l k) := by
 have h0 := (snd_iff l).1 h
 have key : l.Pairwise (fun a b => a.row < b.row ∨ a.row = b.row ∧ a.col < b.col) := by
   rw [List.pairwise_iff_getElem]
   intro i j hi hj hij
   have step : ∀ d, ∀ i j (hi : i < l.length) (hj : j < l.length), j = i + 1 + d → l[i].row < l[j].row ∨ l[i].row = l[j].row ∧ l[i].col < l[j].col := by
     intro d
     induction d with
     | zero =>
       intro i j hi hj e
       subst e
       have := h0 (i + 1) hj
       unfold okAt at this
       simp only [Nat.add_sub_cancel] at this
       rw [clA_get (List.getElem?_eq_getElem hi), clA_get (List.getElem?_eq_getElem hj)] at this
       simp [befC] at this
       exact this.2
     | succ d ih =>
       intro i j hi hj e
       have a := ih i (i + 1 + d) hi (by omega) rfl
       have := h0 j hj
       unfold okAt at this
       rw [show j - 1 = i + 1 + d by omega, clA_get (List.getElem?_eq_getElem (show i + 1 + d < l.length by omega)), clA_get (List.getElem?_eq_getElem hj)] at this
       simp [befC] at this
       have h2 := this.2
       rcases h2 with h2 | h2
       · omega
       · omega
   exact step (j - i - 1) i j hi hj (by omega)
 unfold Rise clsP
 refine (key.filter _).imp_of_mem (fun {a b} ha hb hab => ?_)
 have h1 := (List.mem_filter.1 ha).2
 have h2 := (List.mem_filter.1 hb).2
 simp at h1 h2
 omega
theorem col_runs (A : Cl → Cl → Bool) {l : List Cl} (h : sndB l = true) (k : Int) (T : Int → Int) (hT : ∀ c ∈ clsP l k, onP A l (c.row - 1) k = false → IsTo (fun r => onP A l r k) c.row (T c.row)) :
   (foP A l k).1 = ((clsP l k).filter (fun c => !onP A l (c.row - 1) k)).map (fun c => (k, c.row, T c.row)) := by
 rw [fo_col, fold_grp A k _ (fun c hc => by have := (List.mem_filter.1 hc).2; simp at this; exact this.2)]
 have e : (fun r => onP A l r k) = onC A (clsP l k) := funext (fun r => on_col A l r k)
 rw [e] at hT
 simp only [on_col] at hT ⊢
 exact grp_starts A k (clsP l k) (snd_rise h k) (fun c hc => by have := (List.mem_filter.1 hc).2; simp at this; exact this.1) T hT
open Go.RowKit
set_option maxHeartbeats 4000000
def rbef (a b : Int × Int) : Bool := decide (a.1 < b.1) || (a.1 == b.1 && decide (a.2 < b.2))
theorem rbef_any (a1 a2 b1 b2 : Int) (w : World) : Calls Try.prog 29 #[.agg #[.int .i64 a1, .int .i64 a2], .agg #[.int .i64 b1, .int .i64 b2]] w fun e w' => e = .returned (.bool (rbef (a1, a2) (b1, b2))) ∧ Ext w w' := by
 have HR : Hid (rbef (a1, a2) (b1, b2) = (decide (a1 < b1) || (a1 == b1 && decide (a2 < b2)))) := rfl
 cases h1 : decide (a1 < b1) <;> cases h2 : (a1 == b1) <;> cases h3 : decide (a2 < b2)
 all_goals
   rw [h1, h2, h3] at HR
   have h4 := h1
   have h5 := h3
   simp only [decide_eq_true_eq, decide_eq_false_iff_not] at h4 h5
   go_enter Try.func29, Try.ntmps29
   go_wp2_with fail
   go_ret
   exact ⟨ret_bool (by rw [HR.out]; rfl), ((Ext.refl _).alloc _).alloc _⟩
theorem bef_cl (y x : Cl) : rbef (y.row, y.col) (x.row, x.col) = befC y x := by
 unfold rbef befC
 by_cases h1 : y.row < x.row
 · simp [h1]
 · by_cases h2 : y.row = x.row <;> simp [h1, h2]
set_option maxRecDepth 100000 in
theorem rsound_any (B : Nat) (l : List Cl) (W : World) (v : Value) (h : RdC B W v l) (hl : l.length ≤ 100000) : Calls Try.prog 16 #[v] W fun e w' => e = .returned (.bool (sndB l)) ∧ Ext W w' := by
 obtain ⟨p, cp, rfl, _hcp⟩ := h.form
 obtain ⟨n, hn⟩ : ∃ n, l.length = n := ⟨_, rfl⟩
 have HL : Hid (RdC B W (.slice p n cp) l ∧ l.length = n ∧ n ≤ 100000) := ⟨by rw [← hn]; exact h, hn, by omega⟩
 rw [hn]
 clear h _hcp
 obtain ⟨ans, hans⟩ : ∃ ans, sndB l = ans := ⟨_, rfl⟩
 have HA : Hid (sndB l = ans) := hans
 rw [hans]
 clear hans hn hl
 go_enter Try.func16, Try.ntmps16
 go_wp2_with fail
 go_loopw [3] (fun iv wr => ∃ i : Nat, iv = .int .i64 (i : Int) ∧ i ≤ n ∧ (∀ q, q < i → okAt l q = true) ∧ Ext W wr) (fun iv _ => n - (intOf iv).toNat)
 case atStart => exact ⟨0, rfl, Nat.zero_le _, fun q hq => absurd hq (Nat.not_lt_zero _), Ext.refl _⟩
 case round =>
   obtain ⟨i, rfl, hi, hq, hE⟩ := hrel
   have HQ : Hid ((∀ q, q < i → okAt l q = true) ∧ Ext W wr ∧ i ≤ n) := ⟨hq, hE, hi⟩
   clear hq hE
   by_cases hlt : i < n
   · have hltI : (i : Int) < (n : Int) := by omega
     obtain ⟨x, hx⟩ : ∃ x, l[i]? = some x := ⟨_, List.getElem?_eq_getElem (by rw [HL.out.2.1]; exact hlt)⟩
     obtain ⟨gb, off, lv, rfl, hgb, _hT, hce⟩ := (HL.out.1.ext HQ.out.2.1).at hx
     have HX : Hid (l[i]? = some x) := hx
     have mkI : ∀ V, Ext wr V → (fun V => V.cell? ⟨gb, off + i * 21, none⟩ = some (.int .i64 x.row) ∧ V.cell? ⟨gb, off + i * 21 + 1, none⟩ = some (.int .i64 x.col)) V := fun V e => ⟨((cells_heap (e.block gb hgb) _).1).trans (hce 0 _ rfl), ((cells_heap (e.block gb hgb) _).1).trans (hce 1 _ rfl)⟩
     have mkS : Hid (∀ V, Ext wr V → (fun V => V.cell? ⟨gb, off + i * 21, none⟩ = some (.int .i64 x.row) ∧ V.cell? ⟨gb, off + i * 21 + 1, none⟩ = some (.int .i64 x.col)) V) := mkI
     have ci := fun V => rin_any x.row x.col V
     obtain ⟨b, hb⟩ : ∃ b, inB x.row x.col = b := ⟨_, rfl⟩
     rw [hb] at ci
     have HB : Hid (inB x.row x.col = b) := hb
     clear hce _hT hx hb hi mkI
     go_upto_region 4 with fail
     refine wp_region_held_drew (S := (fun V => V.cell? ⟨gb, off + i * 21, none⟩ = some (.int .i64 x.row) ∧ V.cell? ⟨gb, off + i * 21 + 1, none⟩ = some (.int .i64 x.col))) (by kernel_rfl) ?_ (fun hHeld0 => ?_)
     · (refine mkS.out _ ?_; ((with_reducible (repeat (first | assumption | exact Ext.refl _ | apply Ext.drew | apply Ext.alloc))); done))
     refine wpAnyH_take (i := 0) (oi := ⟨some 10, .move (.tmp 0), 22, "ref.go:15", #[], none⟩) (v := ?_) rfl (by kernel_rfl) (by kernel_rfl) (by kernel_rfl) (fun _ _ _ h => h) (Or.inl ⟨by rfl, ?_⟩) (by assumption) ?_
     rotate_left
     · intro w hSw; (try dsimp only at hSw); first | (go_simp; done) | (go_simp; with_reducible rfl)
     try simp only [Act.put, List.setIfInBounds_toArray, List.set_cons_zero, List.set_cons_succ]
     refine wpAnyH_take (i := 1) (oi := ⟨some 11, .move (.tmp 3), 3, "ref.go:15", #[], none⟩) (v := ?_) rfl (by kernel_rfl) (by kernel_rfl) (by kernel_rfl) (fun _ _ _ h => h) (Or.inl ⟨by rfl, ?_⟩) (by assumption) ?_
     rotate_left
     · intro w hSw; (try dsimp only at hSw); first | (go_simp; done) | (go_simp; with_reducible rfl)
     try simp only [Act.put, List.setIfInBounds_toArray, List.set_cons_zero, List.set_cons_succ]
     refine wpAnyH_take (i := 2) (oi := ⟨some 12, .indexAddr 22 (.tmp 10) (.tmp 11), 0, "ref.go:15", #[⟨0, .data⟩, ⟨1, .data⟩], none⟩) (v := ?_) rfl (by kernel_rfl) (by kernel_rfl) (by kernel_rfl) (fun _ _ _ h => h) (Or.inl ⟨by rfl, ?_⟩) (by assumption) ?_
     rotate_left
     · intro w hSw; (try dsimp only at hSw); first | (go_simp; done) | (go_simp; with_reducible rfl)
     try simp only [Act.put, List.setIfInBounds_toArray, List.set_cons_zero, List.set_cons_succ]
     refine wpAnyH_take (i := 3) (oi := ⟨some 13, .fieldAddr 33 (.tmp 12) 0, 0, "ref.go:15", #[⟨2, .data⟩], none⟩) (v := ?_) rfl (by kernel_rfl) (by kernel_rfl) (by kernel_rfl) (fun _ _ _ h => h) (Or.inl ⟨by rfl, ?_⟩) (by assumption) ?_
     rotate_left
     · intro w hSw; (try dsimp only at hSw); first | (go_simp; done) | (go_simp; with_reducible rfl)
     try simp only [Act.put, List.setIfInBounds_toArray, List.set_cons_zero, List.set_cons_succ]
     refine wpAnyH_take (i := 4) (oi := ⟨some 14, .load 3 (.tmp 13), 3, "ref.go:15", #[⟨3, .data⟩], none⟩) (v := ?_) rfl (by kernel_rfl) (by kernel_rfl) (by kernel_rfl) (fun _ _ _ h => h) (Or.inl ⟨by rfl, ?_⟩) (by assumption) ?_
     rotate_left
     · intro w hSw; (try dsimp only at hSw); first | (go_simp; done) | (go_simp; with_reducible rfl)
     try simp only [Act.put, List.setIfInBounds_toArray, List.set_cons_zero, List.set_cons_succ]
     refine wpAnyH_take (i := 5) (oi := ⟨some 15, .move (.tmp 0), 22, "ref.go:15", #[], none⟩) (v := ?_) rfl (by kernel_rfl) (by kernel_rfl) (by kernel_rfl) (fun _ _ _ h => h) (Or.inl ⟨by rfl, ?_⟩) (by assumption) ?_
     rotate_left
     · intro w hSw; (try dsimp only at hSw); first | (go_simp; done) | (go_simp; with_reducible rfl)
     try simp only [Act.put, List.setIfInBounds_toArray, List.set_cons_zero, List.set_cons_succ]
     refine wpAnyH_take (i := 6) (oi := ⟨some 16, .move (.tmp 3), 3, "ref.go:15", #[], none⟩) (v := ?_) rfl (by kernel_rfl) (by kernel_rfl) (by kernel_rfl) (fun _ _ _ h => h) (Or.inl ⟨by rfl, ?_⟩) (by assumption) ?_
     rotate_left
     · intro w hSw; (try dsimp only at hSw); first | (go_simp; done) | (go_simp; with_reducible rfl)
     try simp only [Act.put, List.setIfInBounds_toArray, List.set_cons_zero, List.set_cons_succ]
     refine wpAnyH_take (i := 7) (oi := ⟨some 17, .indexAddr 22 (.tmp 15) (.tmp 16), 0, "ref.go:15", #[⟨5, .data⟩, ⟨6, .data⟩], none⟩) (v := ?_) rfl (by kernel_rfl) (by kernel_rfl) (by kernel_rfl) (fun _ _ _ h => h) (Or.inl ⟨by rfl, ?_⟩) (by assumption) ?_
     rotate_left
     · intro w hSw; (try dsimp only at hSw); first | (go_simp; done) | (go_simp; with_reducible rfl)
     try simp only [Act.put, List.setIfInBounds_toArray, List.set_cons_zero, List.set_cons_succ]
     refine wpAnyH_take (i := 8) (oi := ⟨some 18, .fieldAddr 33 (.tmp 17) 1, 0, "ref.go:15", #[⟨7, .data⟩], none⟩) (v := ?_) rfl (by kernel_rfl) (by kernel_rfl) (by kernel_rfl) (fun _ _ _ h => h) (Or.inl ⟨by rfl, ?_⟩) (by assumption) ?_
     rotate_left
     · intro w hSw; (try dsimp only at hSw); first | (go_simp; done) | (go_simp; with_reducible rfl)
     try simp only [Act.put, List.setIfInBounds_toArray, List.set_cons_zero, List.set_cons_succ]
     refine wpAnyH_take (i := 9) (oi := ⟨some 19, .load 3 (.tmp 18), 3, "ref.go:15", #[⟨8, .data⟩], none⟩) (v := ?_) rfl (by kernel_rfl) (by kernel_rfl) (by kernel_rfl) (fun _ _ _ h => h) (Or.inl ⟨by rfl, ?_⟩) (by assumption) ?_
     rotate_left
     · intro w hSw; (try dsimp only at hSw); first | (go_simp; done) | (go_simp; with_reducible rfl)
     try simp only [Act.put, List.setIfInBounds_toArray, List.set_cons_zero, List.set_cons_succ]
     refine wpAnyH_ready (rs := [10]) (by kernel_rfl) (by simp) ?_
     refine AllReadyH.cons (o := ⟨some 20, .call { callee := .value (.func 28), args := #[.tmp 14, .tmp 19], argTypes := #[3, 3] }, 4, "ref.go:15", #[⟨4, .data⟩, ⟨9, .data⟩], none⟩) rfl (fun K hK => ?_) AllReadyH.nil
     go_simp
     refine (ci _).mono ?_; rintro e x1 ⟨rfl, rfl⟩
     try go_wp2_with fail
     refine hK.out _ _ ?_ (fun hHeld1 => ?_)
     · (try dsimp only); (refine mkS.out _ ?_; ((with_reducible (repeat (first | assumption | exact Ext.refl _ | apply Ext.drew | apply Ext.alloc))); done))
     clear hK K hHeld0
     try simp only [Act.put, List.setIfInBounds_toArray, List.set_cons_zero, List.set_cons_succ]
     refine wpAnyH_take (i := 11) (oi := ⟨some 21, .unOp .not 4 (.tmp 20), 4, "ref.go:15", #[⟨10, .data⟩], none⟩) (v := ?_) rfl (by kernel_rfl) (by kernel_rfl) (by kernel_rfl) (fun _ _ _ h => h) (Or.inl ⟨by rfl, ?_⟩) (by assumption) ?_
     rotate_left
     · intro w hSw; (try dsimp only at hSw); first | (go_simp; done) | (go_simp; with_reducible rfl)
     try simp only [Act.put, List.setIfInBounds_toArray, List.set_cons_zero, List.set_cons_succ]
     refine wpAnyH_done (by kernel_rfl) ?_ _
     cases b with
     | false =>
       go_wp2_with fail
       go_ret
       refine ⟨?_, HQ.out.2.1.drew⟩
       have hno : okAt l i = false := by unfold okAt; rw [clA_get HX.out, HB.out]; rfl
       rw [← HA.out, snd_no (by rw [HL.out.2.1]; exact hlt) hno]; rfl
     | true =>
       go_upto_region 6 with fail
       rcases Nat.eq_zero_or_pos i with h0 | h0
       · have h1 : Hid (i = 0) := h0
         have hz : (i : Int) = 0 := by omega
         have HZ : Hid ((i : Int) = 0) := hz
         rw [hz]
         clear hz h0 hltI
         refine wp_region_held_drew (S := (fun _ => True)) (by kernel_rfl) ?_ (fun hHeld0 => ?_)
         · trivial
         refine wpAnyH_take (i := 0) (oi := ⟨some 22, .move (.tmp 3), 3, "ref.go:18", #[], none⟩) (v := ?_) rfl (by kernel_rfl) (by kernel_rfl) (by kernel_rfl) (fun _ _ _ h => h) (Or.inl ⟨by rfl, ?_⟩) (by assumption) ?_
         rotate_left
         · intro w hSw; (try dsimp only at hSw); first | (go_simp; done) | (go_simp; with_reducible rfl)
         try simp only [Act.put, List.setIfInBounds_toArray, List.set_cons_zero, List.set_cons_succ]
         refine wpAnyH_take (i := 1) (oi := ⟨some 23, .binOp .gtr 3 (.tmp 22) (.const (.int .i64 0)) 3, 4, "ref.go:18", #[⟨0, .data⟩], none⟩) (v := ?_) rfl (by kernel_rfl) (by kernel_rfl) (by kernel_rfl) (fun _ _ _ h => h) (Or.inl ⟨by rfl, ?_⟩) (by assumption) ?_
         rotate_left
         · intro w hSw; (try dsimp only at hSw); first | (go_simp; done) | (go_simp; with_reducible rfl)
         try simp only [Act.put, List.setIfInBounds_toArray, List.set_cons_zero, List.set_cons_succ]
         refine wpAnyH_take (i := 2) (oi := ⟨some 24, .move (.tmp 23), 4, "ref.go:18", #[⟨1, .data⟩], none⟩) (v := ?_) rfl (by kernel_rfl) (by kernel_rfl) (by kernel_rfl) (fun _ _ _ h => h) (Or.inl ⟨by rfl, ?_⟩) (by assumption) ?_
         rotate_left
         · intro w hSw; (try dsimp only at hSw); first | (go_simp; done) | (go_simp; with_reducible rfl)
         try simp only [Act.put, List.setIfInBounds_toArray, List.set_cons_zero, List.set_cons_succ]
         refine wpAnyH_take (i := 3) (oi := ⟨some 25, .move (.tmp 0), 22, "ref.go:18", #[⟨2, .guard⟩], some (2, true)⟩) (v := undef) rfl (by kernel_rfl) (by kernel_rfl) (by kernel_rfl) (fun _ _ _ h => h) (Or.inr ⟨by rfl, rfl⟩) (by assumption) ?_
         try simp only [Act.put, List.setIfInBounds_toArray, List.set_cons_zero, List.set_cons_succ]
         refine wpAnyH_take (i := 4) (oi := ⟨some 26, .move (.tmp 3), 3, "ref.go:18", #[⟨2, .guard⟩], some (2, true)⟩) (v := undef) rfl (by kernel_rfl) (by kernel_rfl) (by kernel_rfl) (fun _ _ _ h => h) (Or.inr ⟨by rfl, rfl⟩) (by assumption) ?_
         try simp only [Act.put, List.setIfInBounds_toArray, List.set_cons_zero, List.set_cons_succ]
         refine wpAnyH_take (i := 5) (oi := ⟨some 27, .binOp .sub 3 (.tmp 26) (.const (.int .i64 1)) 3, 3, "ref.go:18", #[⟨4, .data⟩, ⟨2, .guard⟩], some (2, true)⟩) (v := undef) rfl (by kernel_rfl) (by kernel_rfl) (by kernel_rfl) (fun _ _ _ h => h) (Or.inr ⟨by rfl, rfl⟩) (by assumption) ?_
         try simp only [Act.put, List.setIfInBounds_toArray, List.set_cons_zero, List.set_cons_succ]
         refine wpAnyH_take (i := 6) (oi := ⟨some 28, .indexAddr 22 (.tmp 25) (.tmp 27), 0, "ref.go:18", #[⟨3, .data⟩, ⟨5, .data⟩, ⟨2, .guard⟩], some (2, true)⟩) (v := undef) rfl (by kernel_rfl) (by kernel_rfl) (by kernel_rfl) (fun _ _ _ h => h) (Or.inr ⟨by rfl, rfl⟩) (by assumption) ?_
         try simp only [Act.put, List.setIfInBounds_toArray, List.set_cons_zero, List.set_cons_succ]
         refine wpAnyH_take (i := 7) (oi := ⟨some 29, .fieldAddr 33 (.tmp 28) 0, 0, "ref.go:18", #[⟨6, .data⟩, ⟨2, .guard⟩], some (2, true)⟩) (v := undef) rfl (by kernel_rfl) (by kernel_rfl) (by kernel_rfl) (fun _ _ _ h => h) (Or.inr ⟨by rfl, rfl⟩) (by assumption) ?_
         try simp only [Act.put, List.setIfInBounds_toArray, List.set_cons_zero, List.set_cons_succ]
         refine wpAnyH_take (i := 8) (oi := ⟨some 30, .load 3 (.tmp 29), 3, "ref.go:18", #[⟨7, .data⟩, ⟨2, .guard⟩], some (2, true)⟩) (v := undef) rfl (by kernel_rfl) (by kernel_rfl) (by kernel_rfl) (fun _ _ _ h => h) (Or.inr ⟨by rfl, rfl⟩) (by assumption) ?_
         try simp only [Act.put, List.setIfInBounds_toArray, List.set_cons_zero, List.set_cons_succ]
         refine wpAnyH_take (i := 9) (oi := ⟨some 31, .move (.tmp 0), 22, "ref.go:18", #[⟨2, .guard⟩], some (2, true)⟩) (v := undef) rfl (by kernel_rfl) (by kernel_rfl) (by kernel_rfl) (fun _ _ _ h => h) (Or.inr ⟨by rfl, rfl⟩) (by assumption) ?_
         try simp only [Act.put, List.setIfInBounds_toArray, List.set_cons_zero, List.set_cons_succ]
         refine wpAnyH_take (i := 10) (oi := ⟨some 32, .move (.tmp 3), 3, "ref.go:18", #[⟨2, .guard⟩], some (2, true)⟩) (v := undef) rfl (by kernel_rfl) (by kernel_rfl) (by kernel_rfl) (fun _ _ _ h => h) (Or.inr ⟨by rfl, rfl⟩) (by assumption) ?_
         try simp only [Act.put, List.setIfInBounds_toArray, List.set_cons_zero, List.set_cons_succ]
         refine wpAnyH_take (i := 11) (oi := ⟨some 33, .binOp .sub 3 (.tmp 32) (.const (.int .i64 1)) 3, 3, "ref.go:18", #[⟨10, .data⟩, ⟨2, .guard⟩], some (2, true)⟩) (v := undef) rfl (by kernel_rfl) (by kernel_rfl) (by kernel_rfl) (fun _ _ _ h => h) (Or.inr ⟨by rfl, rfl⟩) (by assumption) ?_
         try simp only [Act.put, List.setIfInBounds_toArray, List.set_cons_zero, List.set_cons_succ]
         refine wpAnyH_take (i := 12) (oi := ⟨some 34, .indexAddr 22 (.tmp 31) (.tmp 33), 0, "ref.go:18", #[⟨9, .data⟩, ⟨11, .data⟩, ⟨2, .guard⟩], some (2, true)⟩) (v := undef) rfl (by kernel_rfl) (by kernel_rfl) (by kernel_rfl) (fun _ _ _ h => h) (Or.inr ⟨by rfl, rfl⟩) (by assumption) ?_
         try simp only [Act.put, List.setIfInBounds_toArray, List.set_cons_zero, List.set_cons_succ]
         refine wpAnyH_take (i := 13) (oi := ⟨some 35, .fieldAddr 33 (.tmp 34) 1, 0, "ref.go:18", #[⟨12, .data⟩, ⟨2, .guard⟩], some (2, true)⟩) (v := undef) rfl (by kernel_rfl) (by kernel_rfl) (by kernel_rfl) (fun _ _ _ h => h) (Or.inr ⟨by rfl, rfl⟩) (by assumption) ?_
         try simp only [Act.put, List.setIfInBounds_toArray, List.set_cons_zero, List.set_cons_succ]
         refine wpAnyH_take (i := 14) (oi := ⟨some 36, .load 3 (.tmp 35), 3, "ref.go:18", #[⟨13, .data⟩, ⟨2, .guard⟩], some (2, true)⟩) (v := undef) rfl (by kernel_rfl) (by kernel_rfl) (by kernel_rfl) (fun _ _ _ h => h) (Or.inr ⟨by rfl, rfl⟩) (by assumption) ?_
         try simp only [Act.put, List.setIfInBounds_toArray, List.set_cons_zero, List.set_cons_succ]
         refine wpAnyH_take (i := 15) (oi := ⟨some 37, .build 69 #[(0, .tmp 30), (1, .tmp 36)], 69, "ref.go:18", #[⟨8, .data⟩, ⟨14, .data⟩, ⟨2, .guard⟩], some (2, true)⟩) (v := undef) rfl (by kernel_rfl) (by kernel_rfl) (by kernel_rfl) (fun _ _ _ h => h) (Or.inr ⟨by rfl, rfl⟩) (by assumption) ?_
         try simp only [Act.put, List.setIfInBounds_toArray, List.set_cons_zero, List.set_cons_succ]
         refine wpAnyH_take (i := 16) (oi := ⟨some 38, .move (.tmp 0), 22, "ref.go:18", #[⟨2, .guard⟩], some (2, true)⟩) (v := undef) rfl (by kernel_rfl) (by kernel_rfl) (by kernel_rfl) (fun _ _ _ h => h) (Or.inr ⟨by rfl, rfl⟩) (by assumption) ?_
         try simp only [Act.put, List.setIfInBounds_toArray, List.set_cons_zero, List.set_cons_succ]
         refine wpAnyH_take (i := 17) (oi := ⟨some 39, .move (.tmp 3), 3, "ref.go:18", #[⟨2, .guard⟩], some (2, true)⟩) (v := undef) rfl (by kernel_rfl) (by kernel_rfl) (by kernel_rfl) (fun _ _ _ h => h) (Or.inr ⟨by rfl, rfl⟩) (by assumption) ?_
         try simp only [Act.put, List.setIfInBounds_toArray, List.set_cons_zero, List.set_cons_succ]
         refine wpAnyH_take (i := 18) (oi := ⟨some 40, .indexAddr 22 (.tmp 38) (.tmp 39), 0, "ref.go:18", #[⟨16, .data⟩, ⟨17, .data⟩, ⟨2, .guard⟩], some (2, true)⟩) (v := undef) rfl (by kernel_rfl) (by kernel_rfl) (by kernel_rfl) (fun _ _ _ h => h) (Or.inr ⟨by rfl, rfl⟩) (by assumption) ?_
         try simp only [Act.put, List.setIfInBounds_toArray, List.set_cons_zero, List.set_cons_succ]
         refine wpAnyH_take (i := 19) (oi := ⟨some 41, .fieldAddr 33 (.tmp 40) 0, 0, "ref.go:18", #[⟨18, .data⟩, ⟨2, .guard⟩], some (2, true)⟩) (v := undef) rfl (by kernel_rfl) (by kernel_rfl) (by kernel_rfl) (fun _ _ _ h => h) (Or.inr ⟨by rfl, rfl⟩) (by assumption) ?_
         try simp only [Act.put, List.setIfInBounds_toArray, List.set_cons_zero, List.set_cons_succ]
         refine wpAnyH_take (i := 20) (oi := ⟨some 42, .load 3 (.tmp 41), 3, "ref.go:18", #[⟨19, .data⟩, ⟨2, .guard⟩], some (2, true)⟩) (v := undef) rfl (by kernel_rfl) (by kernel_rfl) (by kernel_rfl) (fun _ _ _ h => h) (Or.inr ⟨by rfl, rfl⟩) (by assumption) ?_
         try simp only [Act.put, List.setIfInBounds_toArray, List.set_cons_zero, List.set_cons_succ]
         refine wpAnyH_take (i := 21) (oi := ⟨some 43, .move (.tmp 0), 22, "ref.go:18", #[⟨2, .guard⟩], some (2, true)⟩) (v := undef) rfl (by kernel_rfl) (by kernel_rfl) (by kernel_rfl) (fun _ _ _ h => h) (Or.inr ⟨by rfl, rfl⟩) (by assumption) ?_
         try simp only [Act.put, List.setIfInBounds_toArray, List.set_cons_zero, List.set_cons_succ]
         refine wpAnyH_take (i := 22) (oi := ⟨some 44, .move (.tmp 3), 3, "ref.go:18", #[⟨2, .guard⟩], some (2, true)⟩) (v := undef) rfl (by kernel_rfl) (by kernel_rfl) (by kernel_rfl) (fun _ _ _ h => h) (Or.inr ⟨by rfl, rfl⟩) (by assumption) ?_
         try simp only [Act.put, List.setIfInBounds_toArray, List.set_cons_zero, List.set_cons_succ]
         refine wpAnyH_take (i := 23) (oi := ⟨some 45, .indexAddr 22 (.tmp 43) (.tmp 44), 0, "ref.go:18", #[⟨21, .data⟩, ⟨22, .data⟩, ⟨2, .guard⟩], some (2, true)⟩) (v := undef) rfl (by kernel_rfl) (by kernel_rfl) (by kernel_rfl) (fun _ _ _ h => h) (Or.inr ⟨by rfl, rfl⟩) (by assumption) ?_
         try simp only [Act.put, List.setIfInBounds_toArray, List.set_cons_zero, List.set_cons_succ]
         refine wpAnyH_take (i := 24) (oi := ⟨some 46, .fieldAddr 33 (.tmp 45) 1, 0, "ref.go:18", #[⟨23, .data⟩, ⟨2, .guard⟩], some (2, true)⟩) (v := undef) rfl (by kernel_rfl) (by kernel_rfl) (by kernel_rfl) (fun _ _ _ h => h) (Or.inr ⟨by rfl, rfl⟩) (by assumption) ?_
         try simp only [Act.put, List.setIfInBounds_toArray, List.set_cons_zero, List.set_cons_succ]
         refine wpAnyH_take (i := 25) (oi := ⟨some 47, .load 3 (.tmp 46), 3, "ref.go:18", #[⟨24, .data⟩, ⟨2, .guard⟩], some (2, true)⟩) (v := undef) rfl (by kernel_rfl) (by kernel_rfl) (by kernel_rfl) (fun _ _ _ h => h) (Or.inr ⟨by rfl, rfl⟩) (by assumption) ?_
         try simp only [Act.put, List.setIfInBounds_toArray, List.set_cons_zero, List.set_cons_succ]
         refine wpAnyH_take (i := 26) (oi := ⟨some 48, .build 69 #[(0, .tmp 42), (1, .tmp 47)], 69, "ref.go:18", #[⟨20, .data⟩, ⟨25, .data⟩, ⟨2, .guard⟩], some (2, true)⟩) (v := undef) rfl (by kernel_rfl) (by kernel_rfl) (by kernel_rfl) (fun _ _ _ h => h) (Or.inr ⟨by rfl, rfl⟩) (by assumption) ?_
         try simp only [Act.put, List.setIfInBounds_toArray, List.set_cons_zero, List.set_cons_succ]
         refine wpAnyH_take (i := 27) (oi := ⟨some 49, .call { callee := .value (.func 29), args := #[.tmp 37, .tmp 48], argTypes := #[69, 69] }, 4, "ref.go:18", #[⟨15, .data⟩, ⟨26, .data⟩, ⟨2, .chain⟩, ⟨2, .guard⟩], some (2, true)⟩) (v := undef) rfl (by kernel_rfl) (by kernel_rfl) (by kernel_rfl) (fun _ _ _ h => h) (Or.inr ⟨by rfl, rfl⟩) (by assumption) ?_
         try simp only [Act.put, List.setIfInBounds_toArray, List.set_cons_zero, List.set_cons_succ]
         refine wpAnyH_take (i := 28) (oi := ⟨some 50, .unOp .not 4 (.tmp 49), 4, "ref.go:18", #[⟨27, .data⟩, ⟨2, .guard⟩], some (2, true)⟩) (v := undef) rfl (by kernel_rfl) (by kernel_rfl) (by kernel_rfl) (fun _ _ _ h => h) (Or.inr ⟨by rfl, rfl⟩) (by assumption) ?_
         try simp only [Act.put, List.setIfInBounds_toArray, List.set_cons_zero, List.set_cons_succ]
         refine wpAnyH_take (i := 29) (oi := ⟨some 51, .pick (.tmp 24) (.tmp 50) (.const (.bool false)), 4, "ref.go:18", #[⟨2, .data⟩, ⟨28, .data⟩], none⟩) (v := ?_) rfl (by kernel_rfl) (by kernel_rfl) (by kernel_rfl) (fun _ _ _ h => h) (Or.inl ⟨by rfl, ?_⟩) (by assumption) ?_
         rotate_left
         · intro w hSw; (try dsimp only at hSw); first | (go_simp; done) | (go_simp; with_reducible rfl)
         try simp only [Act.put, List.setIfInBounds_toArray, List.set_cons_zero, List.set_cons_succ]
         refine wpAnyH_done (by kernel_rfl) ?_ _
         go_wp2_with fail
         go_roundw
         case rel =>
           refine ⟨1, rfl, by omega, fun q hq => ?_, (HQ.out.2.1.drew).drew⟩
           have e0 : q = i := by have := h1.out; omega
           subst e0
           unfold okAt
           rw [clA_get HX.out, HB.out, h1.out]; rfl
         case measure =>
           rw [HZ.out]
           have := h1.out
           exact (by show n - (1 : Int).toNat < n - (0 : Int).toNat; omega)
       · obtain ⟨j, hj⟩ : ∃ j, i = j + 1 := ⟨i - 1, by omega⟩
         have wj : IntKind.i64.wrap ((i : Int) - 1) = (j : Int) := by have := HL.out.2.2; rw [iwrap (by omega) (by omega)]; omega
         obtain ⟨iI, hI⟩ : ∃ z : Int, z = (i : Int) := ⟨_, rfl⟩
         have gi : decide (0 < iI) = true := by rw [hI]; exact decide_eq_true (by omega)
         have gi2 : 0 < iI := by omega
         have giN : iI < (n : Int) := by omega
         have HII : Hid (iI = (i : Int)) := hI
         have hix : iI.toNat = i := by rw [hI]; rfl
         have gi0 : 0 ≤ iI := by omega
         rw [← hI] at wj
         rw [← hI]
         clear hI
         have hjI : (j : Int) < (n : Int) := by omega
         have HJ : Hid (i = j + 1 ∧ j < n ∧ i < n) := ⟨hj, by omega, hlt⟩
         obtain ⟨y, hy⟩ : ∃ y, l[j]? = some y := ⟨_, List.getElem?_eq_getElem (by rw [HL.out.2.1]; omega)⟩
         obtain ⟨g2, o2, lv2, hgg, _hg2, _hT2, hce2⟩ := (HL.out.1.ext HQ.out.2.1).at hy
         cases hgg
         have HS2 : Hid (∀ V, Ext wr V → (fun V => V.cell? ⟨gb, off + i * 21, none⟩ = some (.int .i64 x.row) ∧ V.cell? ⟨gb, off + i * 21 + 1, none⟩ = some (.int .i64 x.col) ∧ V.cell? ⟨gb, off + j * 21, none⟩ = some (.int .i64 y.row) ∧ V.cell? ⟨gb, off + j * 21 + 1, none⟩ = some (.int .i64 y.col)) V) := fun V e => ⟨(mkS.out V e).1, (mkS.out V e).2, ((cells_heap (e.block gb hgb) _).1).trans (hce2 0 _ rfl), ((cells_heap (e.block gb hgb) _).1).trans (hce2 1 _ rfl)⟩
         have HY : Hid (l[j]? = some y) := hy
         clear hce2 _hT2 hy hj hlt hltI h0 mkS
         have mkS : Hid (∀ V, Ext wr V → (fun V => V.cell? ⟨gb, off + i * 21, none⟩ = some (.int .i64 x.row) ∧ V.cell? ⟨gb, off + i * 21 + 1, none⟩ = some (.int .i64 x.col) ∧ V.cell? ⟨gb, off + j * 21, none⟩ = some (.int .i64 y.row) ∧ V.cell? ⟨gb, off + j * 21 + 1, none⟩ = some (.int .i64 y.col)) V) := HS2.out
         have cB := fun V => rbef_any y.row y.col x.row x.col V
         obtain ⟨r, hr⟩ : ∃ r, rbef (y.row, y.col) (x.row, x.col) = r := ⟨_, rfl⟩
         rw [hr] at cB
         have HO : Hid (okAt l i = r) := by
           show okAt l i = r
           unfold okAt
           have e1 : i - 1 = j := by have := HJ.out; omega
           have e2 : (i == 0) = false := by have := HJ.out; simp; omega
           rw [clA_get HX.out, HB.out, e1, clA_get HY.out, e2, ← hr, bef_cl]
           rfl
         clear hr HS2
         refine wp_region_held_drew (S := (fun V => V.cell? ⟨gb, off + i * 21, none⟩ = some (.int .i64 x.row) ∧ V.cell? ⟨gb, off + i * 21 + 1, none⟩ = some (.int .i64 x.col) ∧ V.cell? ⟨gb, off + j * 21, none⟩ = some (.int .i64 y.row) ∧ V.cell? ⟨gb, off + j * 21 + 1, none⟩ = some (.int .i64 y.col))) (by kernel_rfl) ?_ (fun hHeld0 => ?_)
         · (refine mkS.out _ ?_; ((with_reducible (repeat (first | assumption | exact Ext.refl _ | apply Ext.drew | apply Ext.alloc))); done))
         refine wpAnyH_take (i := 0) (oi := ⟨some 22, .move (.tmp 3), 3, "ref.go:18", #[], none⟩) (v := ?_) rfl (by kernel_rfl) (by kernel_rfl) (by kernel_rfl) (fun _ _ _ h => h) (Or.inl ⟨by rfl, ?_⟩) (by assumption) ?_
         rotate_left
         · intro w hSw; (try dsimp only at hSw); first | (go_simp; done) | (go_simp; with_reducible rfl)
         try simp only [Act.put, List.setIfInBounds_toArray, List.set_cons_zero, List.set_cons_succ]
         refine wpAnyH_take (i := 1) (oi := ⟨some 23, .binOp .gtr 3 (.tmp 22) (.const (.int .i64 0)) 3, 4, "ref.go:18", #[⟨0, .data⟩], none⟩) (v := ?_) rfl (by kernel_rfl) (by kernel_rfl) (by kernel_rfl) (fun _ _ _ h => h) (Or.inl ⟨by rfl, ?_⟩) (by assumption) ?_
         rotate_left
         · intro w hSw; (try dsimp only at hSw); first | (go_simp; done) | (go_simp; with_reducible rfl)
         try simp only [Act.put, List.setIfInBounds_toArray, List.set_cons_zero, List.set_cons_succ]
         refine wpAnyH_take (i := 2) (oi := ⟨some 24, .move (.tmp 23), 4, "ref.go:18", #[⟨1, .data⟩], none⟩) (v := ?_) rfl (by kernel_rfl) (by kernel_rfl) (by kernel_rfl) (fun _ _ _ h => h) (Or.inl ⟨by rfl, ?_⟩) (by assumption) ?_
         rotate_left
         · intro w hSw; (try dsimp only at hSw); first | (go_simp; done) | (go_simp; with_reducible rfl)
         try simp only [Act.put, List.setIfInBounds_toArray, List.set_cons_zero, List.set_cons_succ]
         refine wpAnyH_take (i := 3) (oi := ⟨some 25, .move (.tmp 0), 22, "ref.go:18", #[⟨2, .guard⟩], some (2, true)⟩) (v := ?_) rfl (by kernel_rfl) (by kernel_rfl) (by kernel_rfl) (fun _ _ _ h => h) (Or.inl ⟨by rfl, ?_⟩) (by assumption) ?_
         rotate_left
         · intro w hSw; (try dsimp only at hSw); first | (go_simp; done) | (go_simp; with_reducible rfl)
         try simp only [Act.put, List.setIfInBounds_toArray, List.set_cons_zero, List.set_cons_succ]
         refine wpAnyH_take (i := 4) (oi := ⟨some 26, .move (.tmp 3), 3, "ref.go:18", #[⟨2, .guard⟩], some (2, true)⟩) (v := ?_) rfl (by kernel_rfl) (by kernel_rfl) (by kernel_rfl) (fun _ _ _ h => h) (Or.inl ⟨by rfl, ?_⟩) (by assumption) ?_
         rotate_left
         · intro w hSw; (try dsimp only at hSw); first | (go_simp; done) | (go_simp; with_reducible rfl)
         try simp only [Act.put, List.setIfInBounds_toArray, List.set_cons_zero, List.set_cons_succ]
         refine wpAnyH_take (i := 5) (oi := ⟨some 27, .binOp .sub 3 (.tmp 26) (.const (.int .i64 1)) 3, 3, "ref.go:18", #[⟨4, .data⟩, ⟨2, .guard⟩], some (2, true)⟩) (v := ?_) rfl (by kernel_rfl) (by kernel_rfl) (by kernel_rfl) (fun _ _ _ h => h) (Or.inl ⟨by rfl, ?_⟩) (by assumption) ?_
         rotate_left
         · intro w hSw; (try dsimp only at hSw); first | (go_simp; done) | (go_simp; with_reducible rfl)
         try simp only [Act.put, List.setIfInBounds_toArray, List.set_cons_zero, List.set_cons_succ]
         refine wpAnyH_take (i := 6) (oi := ⟨some 28, .indexAddr 22 (.tmp 25) (.tmp 27), 0, "ref.go:18", #[⟨3, .data⟩, ⟨5, .data⟩, ⟨2, .guard⟩], some (2, true)⟩) (v := ?_) rfl (by kernel_rfl) (by kernel_rfl) (by kernel_rfl) (fun _ _ _ h => h) (Or.inl ⟨by rfl, ?_⟩) (by assumption) ?_
         rotate_left
         · intro w hSw; (try dsimp only at hSw); first | (go_simp; done) | (go_simp; with_reducible rfl)
         try simp only [Act.put, List.setIfInBounds_toArray, List.set_cons_zero, List.set_cons_succ]
         refine wpAnyH_take (i := 7) (oi := ⟨some 29, .fieldAddr 33 (.tmp 28) 0, 0, "ref.go:18", #[⟨6, .data⟩, ⟨2, .guard⟩], some (2, true)⟩) (v := ?_) rfl (by kernel_rfl) (by kernel_rfl) (by kernel_rfl) (fun _ _ _ h => h) (Or.inl ⟨by rfl, ?_⟩) (by assumption) ?_
         rotate_left
         · intro w hSw; (try dsimp only at hSw); first | (go_simp; done) | (go_simp; with_reducible rfl)
         try simp only [Act.put, List.setIfInBounds_toArray, List.set_cons_zero, List.set_cons_succ]
         refine wpAnyH_take (i := 8) (oi := ⟨some 30, .load 3 (.tmp 29), 3, "ref.go:18", #[⟨7, .data⟩, ⟨2, .guard⟩], some (2, true)⟩) (v := ?_) rfl (by kernel_rfl) (by kernel_rfl) (by kernel_rfl) (fun _ _ _ h => h) (Or.inl ⟨by rfl, ?_⟩) (by assumption) ?_
         rotate_left
         · intro w hSw; (try dsimp only at hSw); first | (go_simp; done) | (go_simp; with_reducible rfl)
         try simp only [Act.put, List.setIfInBounds_toArray, List.set_cons_zero, List.set_cons_succ]
         refine wpAnyH_take (i := 9) (oi := ⟨some 31, .move (.tmp 0), 22, "ref.go:18", #[⟨2, .guard⟩], some (2, true)⟩) (v := ?_) rfl (by kernel_rfl) (by kernel_rfl) (by kernel_rfl) (fun _ _ _ h => h) (Or.inl ⟨by rfl, ?_⟩) (by assumption) ?_
         rotate_left
         · intro w hSw; (try dsimp only at hSw); first | (go_simp; done) | (go_simp; with_reducible rfl)
         try simp only [Act.put, List.setIfInBounds_toArray, List.set_cons_zero, List.set_cons_succ]
         refine wpAnyH_take (i := 10) (oi := ⟨some 32, .move (.tmp 3), 3, "ref.go:18", #[⟨2, .guard⟩], some (2, true)⟩) (v := ?_) rfl (by kernel_rfl) (by kernel_rfl) (by kernel_rfl) (fun _ _ _ h => h) (Or.inl ⟨by rfl, ?_⟩) (by assumption) ?_
         rotate_left
         · intro w hSw; (try dsimp only at hSw); first | (go_simp; done) | (go_simp; with_reducible rfl)
         try simp only [Act.put, List.setIfInBounds_toArray, List.set_cons_zero, List.set_cons_succ]
         refine wpAnyH_take (i := 11) (oi := ⟨some 33, .binOp .sub 3 (.tmp 32) (.const (.int .i64 1)) 3, 3, "ref.go:18", #[⟨10, .data⟩, ⟨2, .guard⟩], some (2, true)⟩) (v := ?_) rfl (by kernel_rfl) (by kernel_rfl) (by kernel_rfl) (fun _ _ _ h => h) (Or.inl ⟨by rfl, ?_⟩) (by assumption) ?_
         rotate_left
         · intro w hSw; (try dsimp only at hSw); first | (go_simp; done) | (go_simp; with_reducible rfl)
         try simp only [Act.put, List.setIfInBounds_toArray, List.set_cons_zero, List.set_cons_succ]
         refine wpAnyH_take (i := 12) (oi := ⟨some 34, .indexAddr 22 (.tmp 31) (.tmp 33), 0, "ref.go:18", #[⟨9, .data⟩, ⟨11, .data⟩, ⟨2, .guard⟩], some (2, true)⟩) (v := ?_) rfl (by kernel_rfl) (by kernel_rfl) (by kernel_rfl) (fun _ _ _ h => h) (Or.inl ⟨by rfl, ?_⟩) (by assumption) ?_
         rotate_left
         · intro w hSw; (try dsimp only at hSw); first | (go_simp; done) | (go_simp; with_reducible rfl)
         try simp only [Act.put, List.setIfInBounds_toArray, List.set_cons_zero, List.set_cons_succ]
         refine wpAnyH_take (i := 13) (oi := ⟨some 35, .fieldAddr 33 (.tmp 34) 1, 0, "ref.go:18", #[⟨12, .data⟩, ⟨2, .guard⟩], some (2, true)⟩) (v := ?_) rfl (by kernel_rfl) (by kernel_rfl) (by kernel_rfl) (fun _ _ _ h => h) (Or.inl ⟨by rfl, ?_⟩) (by assumption) ?_
         rotate_left
         · intro w hSw; (try dsimp only at hSw); first | (go_simp; done) | (go_simp; with_reducible rfl)
         try simp only [Act.put, List.setIfInBounds_toArray, List.set_cons_zero, List.set_cons_succ]
         refine wpAnyH_take (i := 14) (oi := ⟨some 36, .load 3 (.tmp 35), 3, "ref.go:18", #[⟨13, .data⟩, ⟨2, .guard⟩], some (2, true)⟩) (v := ?_) rfl (by kernel_rfl) (by kernel_rfl) (by kernel_rfl) (fun _ _ _ h => h) (Or.inl ⟨by rfl, ?_⟩) (by assumption) ?_
         rotate_left
         · intro w hSw; (try dsimp only at hSw); first | (go_simp; done) | (go_simp; with_reducible rfl)
         try simp only [Act.put, List.setIfInBounds_toArray, List.set_cons_zero, List.set_cons_succ]
         refine wpAnyH_take (i := 15) (oi := ⟨some 37, .build 69 #[(0, .tmp 30), (1, .tmp 36)], 69, "ref.go:18", #[⟨8, .data⟩, ⟨14, .data⟩, ⟨2, .guard⟩], some (2, true)⟩) (v := ?_) rfl (by kernel_rfl) (by kernel_rfl) (by kernel_rfl) (fun _ _ _ h => h) (Or.inl ⟨by rfl, ?_⟩) (by assumption) ?_
         rotate_left
         · intro w hSw; (try dsimp only at hSw); first | (go_simp; done) | (go_simp; with_reducible rfl)
         try simp only [Act.put, List.setIfInBounds_toArray, List.set_cons_zero, List.set_cons_succ]
         refine wpAnyH_take (i := 16) (oi := ⟨some 38, .move (.tmp 0), 22, "ref.go:18", #[⟨2, .guard⟩], some (2, true)⟩) (v := ?_) rfl (by kernel_rfl) (by kernel_rfl) (by kernel_rfl) (fun _ _ _ h => h) (Or.inl ⟨by rfl, ?_⟩) (by assumption) ?_
         rotate_left
         · intro w hSw; (try dsimp only at hSw); first | (go_simp; done) | (go_simp; with_reducible rfl)
         try simp only [Act.put, List.setIfInBounds_toArray, List.set_cons_zero, List.set_cons_succ]
         refine wpAnyH_take (i := 17) (oi := ⟨some 39, .move (.tmp 3), 3, "ref.go:18", #[⟨2, .guard⟩], some (2, true)⟩) (v := ?_) rfl (by kernel_rfl) (by kernel_rfl) (by kernel_rfl) (fun _ _ _ h => h) (Or.inl ⟨by rfl, ?_⟩) (by assumption) ?_
         rotate_left
         · intro w hSw; (try dsimp only at hSw); first | (go_simp; done) | (go_simp; with_reducible rfl)
         try simp only [Act.put, List.setIfInBounds_toArray, List.set_cons_zero, List.set_cons_succ]
         refine wpAnyH_take (i := 18) (oi := ⟨some 40, .indexAddr 22 (.tmp 38) (.tmp 39), 0, "ref.go:18", #[⟨16, .data⟩, ⟨17, .data⟩, ⟨2, .guard⟩], some (2, true)⟩) (v := ?_) rfl (by kernel_rfl) (by kernel_rfl) (by kernel_rfl) (fun _ _ _ h => h) (Or.inl ⟨by rfl, ?_⟩) (by assumption) ?_
         rotate_left
         · intro w hSw; (try dsimp only at hSw); first | (go_simp; done) | (go_simp; with_reducible rfl)
         try simp only [Act.put, List.setIfInBounds_toArray, List.set_cons_zero, List.set_cons_succ]
         refine wpAnyH_take (i := 19) (oi := ⟨some 41, .fieldAddr 33 (.tmp 40) 0, 0, "ref.go:18", #[⟨18, .data⟩, ⟨2, .guard⟩], some (2, true)⟩) (v := ?_) rfl (by kernel_rfl) (by kernel_rfl) (by kernel_rfl) (fun _ _ _ h => h) (Or.inl ⟨by rfl, ?_⟩) (by assumption) ?_
         rotate_left
         · intro w hSw; (try dsimp only at hSw); first | (go_simp; done) | (go_simp; with_reducible rfl)
         try simp only [Act.put, List.setIfInBounds_toArray, List.set_cons_zero, List.set_cons_succ]
         refine wpAnyH_take (i := 20) (oi := ⟨some 42, .load 3 (.tmp 41), 3, "ref.go:18", #[⟨19, .data⟩, ⟨2, .guard⟩], some (2, true)⟩) (v := ?_) rfl (by kernel_rfl) (by kernel_rfl) (by kernel_rfl) (fun _ _ _ h => h) (Or.inl ⟨by rfl, ?_⟩) (by assumption) ?_
         rotate_left
         · intro w hSw; (try dsimp only at hSw); first | (go_simp; done) | (go_simp; with_reducible rfl)
         try simp only [Act.put, List.setIfInBounds_toArray, List.set_cons_zero, List.set_cons_succ]
         refine wpAnyH_take (i := 21) (oi := ⟨some 43, .move (.tmp 0), 22, "ref.go:18", #[⟨2, .guard⟩], some (2, true)⟩) (v := ?_) rfl (by kernel_rfl) (by kernel_rfl) (by kernel_rfl) (fun _ _ _ h => h) (Or.inl ⟨by rfl, ?_⟩) (by assumption) ?_
         rotate_left
         · intro w hSw; (try dsimp only at hSw); first | (go_simp; done) | (go_simp; with_reducible rfl)
         try simp only [Act.put, List.setIfInBounds_toArray, List.set_cons_zero, List.set_cons_succ]
         refine wpAnyH_take (i := 22) (oi := ⟨some 44, .move (.tmp 3), 3, "ref.go:18", #[⟨2, .guard⟩], some (2, true)⟩) (v := ?_) rfl (by kernel_rfl) (by kernel_rfl) (by kernel_rfl) (fun _ _ _ h => h) (Or.inl ⟨by rfl, ?_⟩) (by assumption) ?_
         rotate_left
         · intro w hSw; (try dsimp only at hSw); first | (go_simp; done) | (go_simp; with_reducible rfl)
         try simp only [Act.put, List.setIfInBounds_toArray, List.set_cons_zero, List.set_cons_succ]
         refine wpAnyH_take (i := 23) (oi := ⟨some 45, .indexAddr 22 (.tmp 43) (.tmp 44), 0, "ref.go:18", #[⟨21, .data⟩, ⟨22, .data⟩, ⟨2, .guard⟩], some (2, true)⟩) (v := ?_) rfl (by kernel_rfl) (by kernel_rfl) (by kernel_rfl) (fun _ _ _ h => h) (Or.inl ⟨by rfl, ?_⟩) (by assumption) ?_
         rotate_left
         · intro w hSw; (try dsimp only at hSw); first | (go_simp; done) | (go_simp; with_reducible rfl)
         try simp only [Act.put, List.setIfInBounds_toArray, List.set_cons_zero, List.set_cons_succ]
         refine wpAnyH_take (i := 24) (oi := ⟨some 46, .fieldAddr 33 (.tmp 45) 1, 0, "ref.go:18", #[⟨23, .data⟩, ⟨2, .guard⟩], some (2, true)⟩) (v := ?_) rfl (by kernel_rfl) (by kernel_rfl) (by kernel_rfl) (fun _ _ _ h => h) (Or.inl ⟨by rfl, ?_⟩) (by assumption) ?_
         rotate_left
         · intro w hSw; (try dsimp only at hSw); first | (go_simp; done) | (go_simp; with_reducible rfl)
         try simp only [Act.put, List.setIfInBounds_toArray, List.set_cons_zero, List.set_cons_succ]
         refine wpAnyH_take (i := 25) (oi := ⟨some 47, .load 3 (.tmp 46), 3, "ref.go:18", #[⟨24, .data⟩, ⟨2, .guard⟩], some (2, true)⟩) (v := ?_) rfl (by kernel_rfl) (by kernel_rfl) (by kernel_rfl) (fun _ _ _ h => h) (Or.inl ⟨by rfl, ?_⟩) (by assumption) ?_
         rotate_left
         · intro w hSw; (try dsimp only at hSw); first | (go_simp; done) | (go_simp; with_reducible rfl)
         try simp only [Act.put, List.setIfInBounds_toArray, List.set_cons_zero, List.set_cons_succ]
         refine wpAnyH_take (i := 26) (oi := ⟨some 48, .build 69 #[(0, .tmp 42), (1, .tmp 47)], 69, "ref.go:18", #[⟨20, .data⟩, ⟨25, .data⟩, ⟨2, .guard⟩], some (2, true)⟩) (v := ?_) rfl (by kernel_rfl) (by kernel_rfl) (by kernel_rfl) (fun _ _ _ h => h) (Or.inl ⟨by rfl, ?_⟩) (by assumption) ?_
         rotate_left
         · intro w hSw; (try dsimp only at hSw); first | (go_simp; done) | (go_simp; with_reducible rfl)
         try simp only [Act.put, List.setIfInBounds_toArray, List.set_cons_zero, List.set_cons_succ]
         refine wpAnyH_ready (rs := [27]) (by kernel_rfl) (by simp) ?_
         refine AllReadyH.cons (o := ⟨some 49, .call { callee := .value (.func 29), args := #[.tmp 37, .tmp 48], argTypes := #[69, 69] }, 4, "ref.go:18", #[⟨15, .data⟩, ⟨26, .data⟩, ⟨2, .chain⟩, ⟨2, .guard⟩], some (2, true)⟩) rfl (fun K hK => ?_) AllReadyH.nil
         go_simp
         refine (cB _).mono ?_; rintro e x3 ⟨rfl, E3⟩; have X3 : Ext wr x3 := Ext.trans (by (with_reducible (first | assumption | exact Ext.refl _ | (apply Ext.drew; first | assumption | exact Ext.refl _) | (apply Ext.drew; apply Ext.drew; exact Ext.refl _)))) E3; clear E3
         try go_wp2_with fail
         refine hK.out _ _ ?_ (fun hHeld1 => ?_)
         · (try dsimp only); (refine mkS.out _ ?_; ((with_reducible (repeat (first | assumption | exact Ext.refl _ | apply Ext.drew | apply Ext.alloc))); done))
         clear hK K hHeld0
         try simp only [Act.put, List.setIfInBounds_toArray, List.set_cons_zero, List.set_cons_succ]
         refine wpAnyH_take (i := 28) (oi := ⟨some 50, .unOp .not 4 (.tmp 49), 4, "ref.go:18", #[⟨27, .data⟩, ⟨2, .guard⟩], some (2, true)⟩) (v := ?_) rfl (by kernel_rfl) (by kernel_rfl) (by kernel_rfl) (fun _ _ _ h => h) (Or.inl ⟨by rfl, ?_⟩) (by assumption) ?_
         rotate_left
         · intro w hSw; (try dsimp only at hSw); first | (go_simp; done) | (go_simp; with_reducible rfl)
         try simp only [Act.put, List.setIfInBounds_toArray, List.set_cons_zero, List.set_cons_succ]
         refine wpAnyH_take (i := 29) (oi := ⟨some 51, .pick (.tmp 24) (.tmp 50) (.const (.bool false)), 4, "ref.go:18", #[⟨2, .data⟩, ⟨28, .data⟩], none⟩) (v := ?_) rfl (by kernel_rfl) (by kernel_rfl) (by kernel_rfl) (fun _ _ _ h => h) (Or.inl ⟨by rfl, ?_⟩) (by assumption) ?_
         rotate_left
         · intro w hSw; (try dsimp only at hSw); first | (go_simp; done) | (go_simp; with_reducible rfl)
         try simp only [Act.put, List.setIfInBounds_toArray, List.set_cons_zero, List.set_cons_succ]
         refine wpAnyH_done (by kernel_rfl) ?_ _
         cases r with
         | false =>
           go_wp2_with fail
           go_ret
           refine ⟨?_, HQ.out.2.1.trans X3⟩
           rw [← HA.out, snd_no (by rw [HL.out.2.1]; exact HJ.out.2.2) HO.out]; rfl
         | true =>
           have wi : IntKind.i64.wrap (iI + 1) = iI + 1 := by have := HL.out.2.2; have := HJ.out; have := HII.out; exact iwrap (by omega) (by omega)
           have wi2 : wrap64 (iI + 1) = iI + 1 := by have := HL.out.2.2; have := HJ.out; have := HII.out; exact iwrap64 (by omega) (by omega)
           go_wp2_with fail
           go_roundw
           case rel =>
             refine ⟨i + 1, by rw [HII.out]; rfl, by have := HJ.out; omega, fun q hq => ?_, HQ.out.2.1.trans X3⟩
             by_cases hqi : q = i
             · rw [hqi, HO.out]
             · exact HQ.out.1 q (by omega)
           case measure =>
             rw [HII.out]
             have := HJ.out
             exact (by show n - (((i + 1 : Nat) : Int)).toNat < n - ((i : Nat) : Int).toNat; omega)
   · have he : i = n := by omega
     have hltI : (n : Int) ≤ (i : Int) := by omega
     have hA : Hid (true = ans) := by
       rw [← HA.out]
       exact ((snd_iff l).2 (fun q hq => HQ.out.1 q (by have := HL.out.2.1; omega))).symm
     clear he hlt hi
     go_wp2_with fail
     go_ret
     exact ⟨by rw [← hA.out]; rfl, HQ.out.2.1⟩
open Go.RowKit
set_option maxHeartbeats 6000000
set_option maxRecDepth 100000 in
theorem rmoved_any (r : Rf) (dr dc : Int) (W : World) :
   Calls Try.prog 83 #[.agg #[.int .i64 r.1, .int .i64 r.2.1, .bool r.2.2.1, .bool r.2.2.2], .int .i64 dr, .int .i64 dc] W fun e w' => e = .returned (.agg #[.int .i64 (mvF dr dc r).1, .int .i64 (mvF dr dc r).2.1, .bool (mvF dr dc r).2.2.1, .bool (mvF dr dc r).2.2.2]) ∧ Ext W w' := by
 obtain ⟨a, b, x, y⟩ := r
 cases x <;> cases y
 · go_enter Try.func83, Try.ntmps83
   go_wp2_with fail
   exact bodyPost_ret (v := .agg #[.int .i64 (wrap64 (a + dr)), .int .i64 (wrap64 (b + dc)), .bool false, .bool false]) (by simp [results, Try.results83, go_sem]) rfl ⟨rfl, ((Ext.refl _).alloc _).alloc _⟩
 · go_enter Try.func83, Try.ntmps83
   go_wp2_with fail
   exact bodyPost_ret (v := .agg #[.int .i64 (wrap64 (a + dr)), .int .i64 (b), .bool false, .bool true]) (by simp [results, Try.results83, go_sem]) rfl ⟨rfl, ((Ext.refl _).alloc _).alloc _⟩
 · go_enter Try.func83, Try.ntmps83
   go_wp2_with fail
   exact bodyPost_ret (v := .agg #[.int .i64 (a), .int .i64 (wrap64 (b + dc)), .bool true, .bool false]) (by simp [results, Try.results83, go_sem]) rfl ⟨rfl, ((Ext.refl _).alloc _).alloc _⟩
 · go_enter Try.func83, Try.ntmps83
   go_wp2_with fail
   exact bodyPost_ret (v := .agg #[.int .i64 (a), .int .i64 (b), .bool true, .bool true]) (by simp [results, Try.results83, go_sem]) rfl ⟨rfl, ((Ext.refl _).alloc _).alloc _⟩
theorem rparts10_any (k : Int) (w : World) : Calls Try.prog 84 #[.int .i64 k] w fun e w' => e = .returned (.bool (prB k)) ∧ w' = w := by
 by_cases k6 : k = 6
 · have e6 : (k == 6) = true := by rw [k6]; rfl
   have HX : Hid (prB k = true) := by show _ = _; unfold prB; rw [k6]; rfl
   clear k6
   go_enter Try.func84, Try.ntmps84
   go_wp2_with fail
   go_ret
   exact ⟨ret_bool HX.out.symm, rfl⟩
 by_cases k7 : k = 7
 · have e6 : (k == 6) = false := by simpa using k6
   have e7 : (k == 7) = true := by rw [k7]; rfl
   have HX : Hid (prB k = true) := by show _ = _; unfold prB; rw [k7]; rfl
   clear k6 k7
   go_enter Try.func84, Try.ntmps84
   go_wp2_with fail
   go_ret
   exact ⟨ret_bool HX.out.symm, rfl⟩
 · have e6 : (k == 6) = false := by simpa using k6
   have e7 : (k == 7) = false := by simpa using k7
   have HX : Hid (prB k = (k == 8)) := by show _ = _; unfold prB; rw [Bool.eq_iff_iff]; simp [k6, k7]
   clear k6 k7
   go_enter Try.func84, Try.ntmps84
   go_wp2_with fail
   go_ret
   exact ⟨ret_bool HX.out.symm, rfl⟩
def DcQ (P : Nat → Prop) (w : World) (t : T) (e : Ending) (w' : World) : Prop := ∃ p l c, e = .returned (aggX t (.slice p l c)) ∧ IsL w' (fun k => P k ∨ w.heap.size ≤ k) (.slice p l c) t.l ∧ Ext w w'
theorem OwY.isL {w : World} {base : Nat} {P : Nat → Prop} {v : Value} {ps : List (T × Value)} (h : OwY w base v ps) (hb : ∀ k, base ≤ k → P k) (hx : ∀ p ∈ ps, IsL w P p.2 p.1.l) : IsL w P v (ps.map Prod.fst) := by
 obtain ⟨_, h1⟩ := h
 rcases h1 with ⟨h1, h0⟩ | ⟨g, cap, cur, h1, h3, h4, h5, h6, h7, h8⟩
 · have : ps = [] := List.eq_nil_of_length_eq_zero h0
   subst this h1
   exact .nil
 · subst h1
   refine .mk g 0 cap ps.length _ (fun i => match ps[i]? with | some p => p.2 | none => .slice none 0 0) (by simp) h5 (hb g h3) (heap_lt h4) ?_ ?_
   · intro i t j u hi hj
     rw [List.getElem?_map, Option.map_eq_some_iff] at hi
     obtain ⟨p, hp, rfl⟩ := hi
     simp only [hp] at hj
     have k := flatX_at ps i j p u hp hj
     have hj13 : i * 13 + j < (flatX ps).length := (List.getElem?_eq_some_iff.mp k).1
     rw [flatX_length] at hj13
     rw [cell_of_row w g _ cur _ (0, 0) h4, Nat.zero_add, ← Array.getElem?_toList]
     rw [← h8, List.getElem?_take, if_pos (by omega)] at k
     exact k
   · intro i t hi
     rw [List.getElem?_map, Option.map_eq_some_iff] at hi
     obtain ⟨p, hp, rfl⟩ := hi
     simp only [hp]
     exact hx p (List.mem_of_getElem? hp)
theorem OwY.ext {w w' : World} {base : Nat} {v : Value} {ps : List (T × Value)} (h : OwY w base v ps) (e : Ext w w') : OwY w' base v ps := by
 refine ⟨h.1, ?_⟩
 rcases h.2 with h2 | ⟨g, cap, cur, h1, h2, h3, h4⟩
 · exact .inl h2
 · exact .inr ⟨g, cap, cur, h1, h2, (e.block g (heap_lt h3)).trans h3, h4⟩
theorem OwY.zero {W W' : World} {base g : Nat} (hW : W' = W.alloc (.cells #[] 29)) (hg : g = W.heap.size) (hb : base ≤ g) : OwY W' base (.slice (some ⟨g, 0, none⟩) 0 0) [] := (OwX.zero hW hg hb).1
theorem ext_grownY {w W W' : World} {base : Nat} {v : Value} {ps : List (T × Value)} (h : W.grownBy W' v.ownBlock) (hB : OwY W base v ps) (hE : Ext w W) (hb : w.heap.size ≤ base) : Ext w W' :=
 ⟨h.os.trans hE.os, h.tape.trans hE.tape, h.output.trans hE.output, Nat.le_trans hE.size h.size, fun k hk =>
   (h.block k (Nat.lt_of_lt_of_le hk hE.size) (fun e => hB.far (Nat.lt_of_lt_of_le hk hb) e.symm)).trans (hE.block k hk)⟩
set_option maxRecDepth 100000 in
theorem rback_0 (n : Nat) (t : T) (row col : Int) (hk4 : t.k ≠ 4) (hk5 : t.k ≠ 5) (hp : ¬ (t.k = 6 ∨ t.k = 7 ∨ t.k = 8)) (P : Nat → Prop) (W : World) (pp : Option Addr) (ln cl : Nat) (hL : IsL W P (.slice pp ln cl) t.l) :
   Calls Try.prog 69 #[.agg #[.int .i64 t.k, .int .i64 t.n, .string (bs t.s), .int .i64 t.e, .int .i64 t.r.1, .int .i64 t.r.2.1, .bool t.r.2.2.1, .bool t.r.2.2.2, .int .i64 t.q.1, .int .i64 t.q.2.1, .bool t.q.2.2.1, .bool t.q.2.2.2, .slice pp ln cl], .int .i64 row, .int .i64 col] W (DcQ P W (mpT (mvE row col) (n + 1) t)) := by
 have HX : Hid (mpT (mvE row col) (n + 1) t = mvE row col t) := by
   show _ = _
   have hp : prB t.k = false := by unfold prB; simp; omega
   rw [mpT, hp]
   simp only [Bool.false_eq_true, if_false, List.map_id, wL_self]
 have hmv : mvE row col t = t := by unfold mvE; rw [if_neg hk4, if_neg hk5]
 have HX : Hid (mpT (mvE row col) (n + 1) t = t) := HX.out.trans hmv
 have HI : Hid (IsL W P (.slice pp ln cl) t.l) := hL
 have e4 : (t.k == 4) = false := by simpa using hk4
 have e5 : (t.k == 5) = false := by simpa using hk5
 have c1 := fun V => rparts10_any t.k V
 have hpb : prB t.k = false := by unfold prB; simpa using hp
 rw [hpb] at c1
 clear hk4 hk5 hp hmv hpb hL
 go_enter Try.func69, Try.ntmps69
 go_wp2_with fail
 refine (c1 _).mono ?_
 rintro e w1 ⟨rfl, rfl⟩
 go_wp2_with fail
 rw [HX.out]
 exact bodyPost_ret (v := aggX t (.slice pp ln cl)) (by simp [results, Try.results69, go_sem, aggX]) rfl ⟨pp, ln, cl, rfl, (HI.out.mono (fun k hk _ => .inl hk)).ext (((Ext.refl _).alloc _).alloc _), ((Ext.refl _).alloc _).alloc _⟩
set_option maxRecDepth 100000 in
theorem rback_4 (n : Nat) (t : T) (row col : Int) (hk : t.k = 4) (P : Nat → Prop) (W : World) (pp : Option Addr) (ln cl : Nat) (hL : IsL W P (.slice pp ln cl) t.l) :
   Calls Try.prog 69 #[.agg #[.int .i64 t.k, .int .i64 t.n, .string (bs t.s), .int .i64 t.e, .int .i64 t.r.1, .int .i64 t.r.2.1, .bool t.r.2.2.1, .bool t.r.2.2.2, .int .i64 t.q.1, .int .i64 t.q.2.1, .bool t.q.2.2.1, .bool t.q.2.2.2, .slice pp ln cl], .int .i64 row, .int .i64 col] W (DcQ P W (mpT (mvE row col) (n + 1) t)) := by
 have HX : Hid (mpT (mvE row col) (n + 1) t = mvE row col t) := by
   show _ = _
   have hp : prB t.k = false := by unfold prB; rw [hk]; rfl
   rw [mpT, hp]
   simp only [Bool.false_eq_true, if_false, List.map_id, wL_self]
 have hmv : mvE row col t = t.wR (mvF row col t.r) := by unfold mvE; rw [if_pos hk]
 have HX : Hid (mpT (mvE row col) (n + 1) t = t.wR (mvF row col t.r)) := HX.out.trans hmv
 have HI : Hid (IsL W P (.slice pp ln cl) t.l) := hL
 have e4 : (t.k == 4) = true := by rw [hk]; rfl
 have e5 : (t.k == 5) = false := by rw [hk]; rfl
 have c0 := fun V => rparts10_any t.k V
 have hpb : prB t.k = false := by unfold prB; rw [hk]; rfl
 rw [hpb] at c0
 have c1 := fun V => rmoved_any t.r row col V
 have c2 := fun V => rmoved_any t.q row col V
 obtain ⟨r, hr⟩ : ∃ r, mvF row col t.r = r := ⟨_, rfl⟩
 obtain ⟨q, hq⟩ : ∃ q, mvF row col t.q = q := ⟨_, rfl⟩
 rw [hr] at c1 HX
 rw [hq] at c2
 clear hk hmv hpb hL hr hq
 go_enter Try.func69, Try.ntmps69
 go_wp2_with fail
 refine (c1 _).mono ?_
 rintro e w1 ⟨rfl, E1⟩
 have HB : Hid (BlkX w1 W.heap.size t (.slice pp ln cl) ∧ BlkX w1 (W.heap.size + 1) tz (.slice none 0 0) ∧ Ext W w1) := ⟨(blk13_top rfl ((Ext.refl _).alloc _)).ext E1, (BlkX.top (by simp) (Ext.refl _)).ext E1, (((Ext.refl _).alloc _).alloc _).trans E1⟩
 have hz : W.heap.size + 1 < w1.heap.size := HB.out.2.1.1
 have HB0 := HB.out.1
 obtain ⟨qa, ⟨la0, la1, la2, la3, la4, la5, la6, la7, la8, la9, la10, la11, la12⟩, ga0, ga1, ga2, ga3, ga4, ga5, ga6, ga7, ga8, ga9, ga10, ga11, ga12⟩ := HB0
 have HB1 := HB.out.2.1
 obtain ⟨qc, ⟨lc0, lc1, lc2, lc3, lc4, lc5, lc6, lc7, lc8, lc9, lc10, lc11, lc12⟩, gc0, gc1, gc2, gc3, gc4, gc5, gc6, gc7, gc8, gc9, gc10, gc11, gc12⟩ := HB1
 clear E1 c1
 go_wp2_with fail
 refine (c0 _).mono ?_
 rintro e w4 ⟨rfl, rfl⟩
 go_wp2_with fail
 show bodyPost Try.prog _ _ _ _ (putX ((((w1.setCell ⟨W.heap.size, 4, none⟩ (.int .i64 r.1)).setCell ⟨W.heap.size, 5, none⟩ (.int .i64 r.2.1)).setCell ⟨W.heap.size, 6, none⟩ (.bool r.2.2.1)).setCell ⟨W.heap.size, 7, none⟩ (.bool r.2.2.2)) (W.heap.size + 1) (t.wR r) (.slice pp ln cl))
 rw [HX.out]
 have E4 : Ext W ((((w1.setCell ⟨W.heap.size, 4, none⟩ (.int .i64 r.1)).setCell ⟨W.heap.size, 5, none⟩ (.int .i64 r.2.1)).setCell ⟨W.heap.size, 6, none⟩ (.bool r.2.2.1)).setCell ⟨W.heap.size, 7, none⟩ (.bool r.2.2.2)) := ((((HB.out.2.2).setCell (p := ⟨W.heap.size, 4, none⟩) (Nat.le_refl _) _).setCell (p := ⟨W.heap.size, 5, none⟩) (Nat.le_refl _) _).setCell (p := ⟨W.heap.size, 6, none⟩) (Nat.le_refl _) _).setCell (p := ⟨W.heap.size, 7, none⟩) (Nat.le_refl _) _
 have B4 : BlkX ((((w1.setCell ⟨W.heap.size, 4, none⟩ (.int .i64 r.1)).setCell ⟨W.heap.size, 5, none⟩ (.int .i64 r.2.1)).setCell ⟨W.heap.size, 6, none⟩ (.bool r.2.2.1)).setCell ⟨W.heap.size, 7, none⟩ (.bool r.2.2.2)) (W.heap.size + 1) tz (.slice none 0 0) := Blk13.far1 (Blk13.far1 (Blk13.far1 (Blk13.far1 (HB.out.2.1) (by omega) 4 _) (by omega) 5 _) (by omega) 6 _) (by omega) 7 _
 generalize (((w1.setCell ⟨W.heap.size, 4, none⟩ (.int .i64 r.1)).setCell ⟨W.heap.size, 5, none⟩ (.int .i64 r.2.1)).setCell ⟨W.heap.size, 6, none⟩ (.bool r.2.2.1)).setCell ⟨W.heap.size, 7, none⟩ (.bool r.2.2.2) = w5 at *
 exact endR (B4.put (t.wR r) (.slice pp ln cl)) rfl ⟨pp, ln, cl, rfl, (HI.out.mono (P' := fun k => k < W.heap.size ∧ P k) (fun k hk hs => ⟨hs, hk⟩)).keep (putX_E E4 (by omega) _ _).sz (fun k hk hs => (putX_E E4 (by omega) (t.wR r) (.slice pp ln cl)).block k hs) (fun k hk _ => .inl hk.2), putX_E E4 (by omega) _ _⟩ (fun h0 h1 h2 h3 h4 h5 h6 h7 h8 h9 h10 h11 h12 => by simp [results, Try.results69, go_sem, h0, h1, h2, h3, h4, h5, h6, h7, h8, h9, h10, h11, h12, aggX])
set_option maxRecDepth 100000 in
theorem rback_5 (n : Nat) (t : T) (row col : Int) (hk : t.k = 5) (P : Nat → Prop) (W : World) (pp : Option Addr) (ln cl : Nat) (hL : IsL W P (.slice pp ln cl) t.l) :
   Calls Try.prog 69 #[.agg #[.int .i64 t.k, .int .i64 t.n, .string (bs t.s), .int .i64 t.e, .int .i64 t.r.1, .int .i64 t.r.2.1, .bool t.r.2.2.1, .bool t.r.2.2.2, .int .i64 t.q.1, .int .i64 t.q.2.1, .bool t.q.2.2.1, .bool t.q.2.2.2, .slice pp ln cl], .int .i64 row, .int .i64 col] W (DcQ P W (mpT (mvE row col) (n + 1) t)) := by
 have HX : Hid (mpT (mvE row col) (n + 1) t = mvE row col t) := by
   show _ = _
   have hp : prB t.k = false := by unfold prB; rw [hk]; rfl
   rw [mpT, hp]
   simp only [Bool.false_eq_true, if_false, List.map_id, wL_self]
 have hmv : mvE row col t = t.wRQ (mvF row col t.r) (mvF row col t.q) := by unfold mvE; rw [if_neg (by omega), if_pos hk]
 have HX : Hid (mpT (mvE row col) (n + 1) t = t.wRQ (mvF row col t.r) (mvF row col t.q)) := HX.out.trans hmv
 have HI : Hid (IsL W P (.slice pp ln cl) t.l) := hL
 have e4 : (t.k == 4) = false := by rw [hk]; rfl
 have e5 : (t.k == 5) = true := by rw [hk]; rfl
 have c0 := fun V => rparts10_any t.k V
 have hpb : prB t.k = false := by unfold prB; rw [hk]; rfl
 rw [hpb] at c0
 have c1 := fun V => rmoved_any t.r row col V
 have c2 := fun V => rmoved_any t.q row col V
 obtain ⟨r, hr⟩ : ∃ r, mvF row col t.r = r := ⟨_, rfl⟩
 obtain ⟨q, hq⟩ : ∃ q, mvF row col t.q = q := ⟨_, rfl⟩
 rw [hr] at c1 HX
 rw [hq] at c2 HX
 clear hk hmv hpb hL hr hq
 go_enter Try.func69, Try.ntmps69
 go_wp2_with fail
 refine (c1 _).mono ?_
 rintro e w1 ⟨rfl, E1⟩
 have HB : Hid (BlkX w1 W.heap.size t (.slice pp ln cl) ∧ BlkX w1 (W.heap.size + 1) tz (.slice none 0 0) ∧ Ext W w1) := ⟨(blk13_top rfl ((Ext.refl _).alloc _)).ext E1, (BlkX.top (by simp) (Ext.refl _)).ext E1, (((Ext.refl _).alloc _).alloc _).trans E1⟩
 have hz : W.heap.size + 1 < w1.heap.size := HB.out.2.1.1
 have HB0 := HB.out.1
 obtain ⟨qa, ⟨la0, la1, la2, la3, la4, la5, la6, la7, la8, la9, la10, la11, la12⟩, ga0, ga1, ga2, ga3, ga4, ga5, ga6, ga7, ga8, ga9, ga10, ga11, ga12⟩ := HB0
 have HB1 := HB.out.2.1
 obtain ⟨qc, ⟨lc0, lc1, lc2, lc3, lc4, lc5, lc6, lc7, lc8, lc9, lc10, lc11, lc12⟩, gc0, gc1, gc2, gc3, gc4, gc5, gc6, gc7, gc8, gc9, gc10, gc11, gc12⟩ := HB1
 clear E1 c1
 go_wp2_with fail
 have E2 : Ext W ((((w1.setCell ⟨W.heap.size, 4, none⟩ (.int .i64 r.1)).setCell ⟨W.heap.size, 5, none⟩ (.int .i64 r.2.1)).setCell ⟨W.heap.size, 6, none⟩ (.bool r.2.2.1)).setCell ⟨W.heap.size, 7, none⟩ (.bool r.2.2.2)) := ((((HB.out.2.2).setCell (p := ⟨W.heap.size, 4, none⟩) (Nat.le_refl _) _).setCell (p := ⟨W.heap.size, 5, none⟩) (Nat.le_refl _) _).setCell (p := ⟨W.heap.size, 6, none⟩) (Nat.le_refl _) _).setCell (p := ⟨W.heap.size, 7, none⟩) (Nat.le_refl _) _
 have B2 : BlkX ((((w1.setCell ⟨W.heap.size, 4, none⟩ (.int .i64 r.1)).setCell ⟨W.heap.size, 5, none⟩ (.int .i64 r.2.1)).setCell ⟨W.heap.size, 6, none⟩ (.bool r.2.2.1)).setCell ⟨W.heap.size, 7, none⟩ (.bool r.2.2.2)) W.heap.size (t.wR r) (.slice pp ln cl) := Blk13.put7 (Blk13.put6 (Blk13.put5 (Blk13.put4 HB.out.1 _) _) _) _
 have B3 : BlkX ((((w1.setCell ⟨W.heap.size, 4, none⟩ (.int .i64 r.1)).setCell ⟨W.heap.size, 5, none⟩ (.int .i64 r.2.1)).setCell ⟨W.heap.size, 6, none⟩ (.bool r.2.2.1)).setCell ⟨W.heap.size, 7, none⟩ (.bool r.2.2.2)) (W.heap.size + 1) tz (.slice none 0 0) := Blk13.far1 (Blk13.far1 (Blk13.far1 (Blk13.far1 (HB.out.2.1) (by omega) 4 _) (by omega) 5 _) (by omega) 6 _) (by omega) 7 _
 generalize (((w1.setCell ⟨W.heap.size, 4, none⟩ (.int .i64 r.1)).setCell ⟨W.heap.size, 5, none⟩ (.int .i64 r.2.1)).setCell ⟨W.heap.size, 6, none⟩ (.bool r.2.2.1)).setCell ⟨W.heap.size, 7, none⟩ (.bool r.2.2.2) = w2 at *
 have H2 : Hid (Ext W w2 ∧ BlkX w2 W.heap.size (t.wR r) (.slice pp ln cl) ∧ BlkX w2 (W.heap.size + 1) tz (.slice none 0 0)) := ⟨E2, B2, B3⟩
 clear E2 B2 B3 qa la0 la1 la2 la3 la4 la5 la6 la7 la8 la9 la10 la11 la12 ga0 ga1 ga2 ga3 ga4 ga5 ga6 ga7 ga8 ga9 ga10 ga11 ga12 qc lc0 lc1 lc2 lc3 lc4 lc5 lc6 lc7 lc8 lc9 lc10 lc11 lc12 gc0 gc1 gc2 gc3 gc4 gc5 gc6 gc7 gc8 gc9 gc10 gc11 gc12
 refine (c2 _).mono ?_
 rintro e w3 ⟨rfl, E3⟩
 have H3 : Hid (Ext W w3 ∧ BlkX w3 W.heap.size (t.wR r) (.slice pp ln cl) ∧ BlkX w3 (W.heap.size + 1) tz (.slice none 0 0)) := ⟨H2.out.1.trans E3, H2.out.2.1.ext E3, H2.out.2.2.ext E3⟩
 have hz3 : W.heap.size + 1 < w3.heap.size := H3.out.2.2.1
 have HB2 := H3.out.2.1
 obtain ⟨qa, ⟨la0, la1, la2, la3, la4, la5, la6, la7, la8, la9, la10, la11, la12⟩, ga0, ga1, ga2, ga3, ga4, ga5, ga6, ga7, ga8, ga9, ga10, ga11, ga12⟩ := HB2
 have HB3 := H3.out.2.2
 obtain ⟨qc, ⟨lc0, lc1, lc2, lc3, lc4, lc5, lc6, lc7, lc8, lc9, lc10, lc11, lc12⟩, gc0, gc1, gc2, gc3, gc4, gc5, gc6, gc7, gc8, gc9, gc10, gc11, gc12⟩ := HB3
 clear E3 c2
 go_wp2_with fail
 refine (c0 _).mono ?_
 rintro e w4 ⟨rfl, rfl⟩
 go_wp2_with fail
 show bodyPost Try.prog _ _ _ _ (putX ((((w3.setCell ⟨W.heap.size, 8, none⟩ (.int .i64 q.1)).setCell ⟨W.heap.size, 9, none⟩ (.int .i64 q.2.1)).setCell ⟨W.heap.size, 10, none⟩ (.bool q.2.2.1)).setCell ⟨W.heap.size, 11, none⟩ (.bool q.2.2.2)) (W.heap.size + 1) (t.wRQ r q) (.slice pp ln cl))
 rw [HX.out]
 have E4 : Ext W ((((w3.setCell ⟨W.heap.size, 8, none⟩ (.int .i64 q.1)).setCell ⟨W.heap.size, 9, none⟩ (.int .i64 q.2.1)).setCell ⟨W.heap.size, 10, none⟩ (.bool q.2.2.1)).setCell ⟨W.heap.size, 11, none⟩ (.bool q.2.2.2)) := ((((H3.out.1).setCell (p := ⟨W.heap.size, 8, none⟩) (Nat.le_refl _) _).setCell (p := ⟨W.heap.size, 9, none⟩) (Nat.le_refl _) _).setCell (p := ⟨W.heap.size, 10, none⟩) (Nat.le_refl _) _).setCell (p := ⟨W.heap.size, 11, none⟩) (Nat.le_refl _) _
 have B4 : BlkX ((((w3.setCell ⟨W.heap.size, 8, none⟩ (.int .i64 q.1)).setCell ⟨W.heap.size, 9, none⟩ (.int .i64 q.2.1)).setCell ⟨W.heap.size, 10, none⟩ (.bool q.2.2.1)).setCell ⟨W.heap.size, 11, none⟩ (.bool q.2.2.2)) (W.heap.size + 1) tz (.slice none 0 0) := Blk13.far1 (Blk13.far1 (Blk13.far1 (Blk13.far1 (H3.out.2.2) (by omega) 8 _) (by omega) 9 _) (by omega) 10 _) (by omega) 11 _
 generalize (((w3.setCell ⟨W.heap.size, 8, none⟩ (.int .i64 q.1)).setCell ⟨W.heap.size, 9, none⟩ (.int .i64 q.2.1)).setCell ⟨W.heap.size, 10, none⟩ (.bool q.2.2.1)).setCell ⟨W.heap.size, 11, none⟩ (.bool q.2.2.2) = w5 at *
 exact endR (B4.put (t.wRQ r q) (.slice pp ln cl)) rfl ⟨pp, ln, cl, rfl, (HI.out.mono (P' := fun k => k < W.heap.size ∧ P k) (fun k hk hs => ⟨hs, hk⟩)).keep (putX_E E4 (by omega) _ _).sz (fun k hk hs => (putX_E E4 (by omega) (t.wRQ r q) (.slice pp ln cl)).block k hs) (fun k hk _ => .inl hk.2), putX_E E4 (by omega) _ _⟩ (fun h0 h1 h2 h3 h4 h5 h6 h7 h8 h9 h10 h11 h12 => by simp [results, Try.results69, go_sem, h0, h1, h2, h3, h4, h5, h6, h7, h8, h9, h10, h11, h12, aggX])
set_option maxRecDepth 100000 in
theorem rback_n (n : Nat) (t : T) (row col : Int) (hp : t.k = 6 ∨ t.k = 7 ∨ t.k = 8) (hl : t.l.length ≤ 100000) (ih : ∀ x ∈ t.l, ∀ (P : Nat → Prop) (W : World) (pp : Option Addr) (ln cl : Nat), IsL W P (.slice pp ln cl) x.l → Calls Try.prog 69 #[.agg #[.int .i64 x.k, .int .i64 x.n, .string (bs x.s), .int .i64 x.e, .int .i64 x.r.1, .int .i64 x.r.2.1, .bool x.r.2.2.1, .bool x.r.2.2.2, .int .i64 x.q.1, .int .i64 x.q.2.1, .bool x.q.2.2.1, .bool x.q.2.2.2, .slice pp ln cl], .int .i64 row, .int .i64 col] W (DcQ P W (mpT (mvE row col) n x))) (P : Nat → Prop) (W : World) (pp : Option Addr) (ln cl : Nat) (hL : IsL W P (.slice pp ln cl) t.l) :
   Calls Try.prog 69 #[.agg #[.int .i64 t.k, .int .i64 t.n, .string (bs t.s), .int .i64 t.e, .int .i64 t.r.1, .int .i64 t.r.2.1, .bool t.r.2.2.1, .bool t.r.2.2.2, .int .i64 t.q.1, .int .i64 t.q.2.1, .bool t.q.2.2.1, .bool t.q.2.2.2, .slice pp ln cl], .int .i64 row, .int .i64 col] W (DcQ P W (mpT (mvE row col) (n + 1) t)) := by
 have hpb : prB t.k = true := by unfold prB; simpa using hp
 have HX : Hid (mpT (mvE row col) (n + 1) t = t.wL (t.l.map (mpT (mvE row col) n))) := by
   show _ = _
   rw [mpT, hpb]
   exact by unfold mvE; rw [if_neg (by show ¬ t.k = 4; omega), if_neg (by show ¬ t.k = 5; omega)]; rfl
 have hln : ln = t.l.length := by
   obtain ⟨p, c, h1, _⟩ := hL.form
   cases h1; rfl
 have HI : Hid (IsL W (fun k => P k ∧ k < W.heap.size) (.slice pp ln cl) t.l) := hL.mono (fun k hk hs => ⟨hk, hs⟩)
 have HLN : Hid (ln = t.l.length) := hln
 have HIH : Hid (∀ x ∈ t.l, ∀ (P : Nat → Prop) (W : World) (pp : Option Addr) (ln cl : Nat), IsL W P (.slice pp ln cl) x.l → Calls Try.prog 69 #[.agg #[.int .i64 x.k, .int .i64 x.n, .string (bs x.s), .int .i64 x.e, .int .i64 x.r.1, .int .i64 x.r.2.1, .bool x.r.2.2.1, .bool x.r.2.2.2, .int .i64 x.q.1, .int .i64 x.q.2.1, .bool x.q.2.2.1, .bool x.q.2.2.2, .slice pp ln cl], .int .i64 row, .int .i64 col] W (DcQ P W (mpT (mvE row col) n x))) := ih
 have hl2 : ln ≤ 100000 := by omega
 have c0 := fun V => rparts10_any t.k V
 rw [hpb] at c0
 have e4 : (t.k == 4) = false := by simp; omega
 have e5 : (t.k == 5) = false := by simp; omega
 clear hL hln ih hl hp hpb
 go_enter Try.func69, Try.ntmps69
 go_wp2_with fail
 refine (c0 _).mono ?_
 rintro e wp ⟨rfl, rfl⟩
 clear c0
 go_wp2_with fail
 go_loopw [7, 8] (fun xv iv wr => ∃ (j g cap : Nat) (ps : List (T × Value)), j ≤ ln ∧ xv = .slice (some ⟨g, 0, none⟩) j cap ∧ iv = .int .i64 (j : Int) ∧ ps.length = j ∧ OwY wr (W.heap.size + 1 + 1) (.slice (some ⟨g, 0, none⟩) ps.length cap) ps ∧ (∀ p ∈ ps, IsL wr (fun k => (P k ∧ k < W.heap.size) ∨ (W.heap.size + 1 + 1 ≤ k ∧ k ≠ g)) p.2 p.1.l) ∧ ps.map Prod.fst = (t.l.take j).map (mpT (mvE row col) n) ∧ BlkX wr W.heap.size t (.slice pp ln cl) ∧ BlkX wr (W.heap.size + 1) tz (.slice none 0 0) ∧ Ext W wr) (fun _ iv _ => ln - (intOf iv).toNat)
 case atStart => exact ⟨0, W.heap.size + 1 + 1, 0, [], Nat.zero_le _, rfl, rfl, rfl, OwY.zero rfl (by simp) (Nat.le_refl _), fun p hp => by simp at hp, by simp, blk13_top rfl (((Ext.refl _).alloc _).alloc _), BlkX.top (by simp) ((Ext.refl _).alloc _), (((Ext.refl _).alloc _).alloc _).alloc _⟩
 case round =>
   obtain ⟨j, g, cap, ps, hj, rfl, rfl, hpl, hO, hIs, hps, hB, hB2, hE⟩ := hrel
   have HO : Hid (OwY wr (W.heap.size + 1 + 1) (.slice (some ⟨g, 0, none⟩) ps.length cap) ps ∧ ps.map Prod.fst = (t.l.take j).map (mpT (mvE row col) n) ∧ Ext W wr ∧ ps.length = j ∧ (∀ p ∈ ps, IsL wr (fun k => (P k ∧ k < W.heap.size) ∨ (W.heap.size + 1 + 1 ≤ k ∧ k ≠ g)) p.2 p.1.l)) := ⟨hO, hps, hE, hpl, hIs⟩
   have HB : Hid (BlkX wr W.heap.size t (.slice pp ln cl) ∧ BlkX wr (W.heap.size + 1) tz (.slice none 0 0)) := ⟨hB, hB2⟩
   obtain ⟨qz, ⟨k0, k1, k2, k3, k4, k5, k6, k7, k8, k9, k10, k11, k12⟩, f0, f1, f2, f3, f4, f5, f6, f7, f8, f9, f10, f11, f12⟩ := hB
   have hwr : W.heap.size + 1 < wr.heap.size := hB2.1
   have hgw : g < wr.heap.size ∧ W.heap.size + 1 + 1 ≤ g := by
     rcases hO.2 with ⟨q1, _⟩ | ⟨g', cap', cur, q1, q2, q3, _⟩
     · cases q1
     · cases q1; exact ⟨heap_lt q3, q2⟩
   clear hE hps hO hpl hB2 hIs f0 f1 f2 f3 f4 f5 f6 f7 f8 f9 f10 f11
   by_cases hlt : j < ln
   · have hltI : (j : Int) < (ln : Int) := by omega
     have hI := HI.out.ext HO.out.2.2.1
     obtain ⟨gb, off, x, lv, hpp, hx1, hA1, hgb, hA2, hLx, hce⟩ := hI.at (i := j) (by rw [← HLN.out]; exact hlt)
     clear hA1 hA2
     subst hpp
     obtain ⟨pp, cl', hlv, hcl⟩ := hLx.form
     obtain ⟨ln', hln'⟩ : ∃ ln', x.l.length = ln' := ⟨_, rfl⟩
     rw [hln'] at hlv
     subst hlv
     have HX1 : Hid (t.l[j]? = some x) := hx1
     have HC : Hid (Calls Try.prog 69 #[.agg #[.int .i64 x.k, .int .i64 x.n, .string (bs x.s), .int .i64 x.e, .int .i64 x.r.1, .int .i64 x.r.2.1, .bool x.r.2.2.1, .bool x.r.2.2.2, .int .i64 x.q.1, .int .i64 x.q.2.1, .bool x.q.2.2.1, .bool x.q.2.2.2, .slice pp ln' cl'], .int .i64 row, .int .i64 col] wr (DcQ (fun k => P k ∧ k < W.heap.size) wr (mpT (mvE row col) n x))) := HIH.out x (List.mem_of_getElem? hx1) _ wr pp ln' cl' hLx
     have e0 : wr.cell? ⟨gb, off + j * 13, none⟩ = some (.int .i64 x.k) := hce 0 _ rfl
     have e1 : wr.cell? ⟨gb, off + j * 13 + 1, none⟩ = some (.int .i64 x.n) := hce 1 _ rfl
     have e2 : wr.cell? ⟨gb, off + j * 13 + 2, none⟩ = some (.string (bs x.s)) := hce 2 _ rfl
     have e3 : wr.cell? ⟨gb, off + j * 13 + 3, none⟩ = some (.int .i64 x.e) := hce 3 _ rfl
     have e4 : wr.cell? ⟨gb, off + j * 13 + 4, none⟩ = some (.int .i64 x.r.1) := hce 4 _ rfl
     have e5 : wr.cell? ⟨gb, off + j * 13 + 5, none⟩ = some (.int .i64 x.r.2.1) := hce 5 _ rfl
     have e6 : wr.cell? ⟨gb, off + j * 13 + 6, none⟩ = some (.bool x.r.2.2.1) := hce 6 _ rfl
     have e7 : wr.cell? ⟨gb, off + j * 13 + 7, none⟩ = some (.bool x.r.2.2.2) := hce 7 _ rfl
     have e8 : wr.cell? ⟨gb, off + j * 13 + 8, none⟩ = some (.int .i64 x.q.1) := hce 8 _ rfl
     have e9 : wr.cell? ⟨gb, off + j * 13 + 9, none⟩ = some (.int .i64 x.q.2.1) := hce 9 _ rfl
     have e10 : wr.cell? ⟨gb, off + j * 13 + 10, none⟩ = some (.bool x.q.2.2.1) := hce 10 _ rfl
     have e11 : wr.cell? ⟨gb, off + j * 13 + 11, none⟩ = some (.bool x.q.2.2.2) := hce 11 _ rfl
     have e12 : wr.cell? ⟨gb, off + j * 13 + 12, none⟩ = some (.slice pp ln' cl') := hce 12 _ rfl
     clear hI hx1 hLx hce hcl hln'
     go_wp2_with fail
     refine HC.out.mono ?_
     rintro e w3 ⟨qq, lm, cm, rfl, hL, E3⟩
     obtain ⟨y, hy⟩ : ∃ y, mpT (mvE row col) n x = y := ⟨_, rfl⟩
     have HY : Hid (mpT (mvE row col) n x = y) := hy
     rw [hy] at hL ⊢
     have HL3 : Hid (IsL w3 (fun k => (P k ∧ k < W.heap.size) ∨ (W.heap.size + 1 + 1 ≤ k ∧ k ≠ g)) (.slice qq lm cm) y.l) := hL.mono (fun k hk hs => by rcases hk with hk | hk; exact .inl hk; exact .inr ⟨by omega, by omega⟩)
     have HO3 : Hid (OwY w3 (W.heap.size + 1 + 1) (.slice (some ⟨g, 0, none⟩) ps.length cap) ps ∧ Ext W w3 ∧ BlkX w3 W.heap.size t (.slice (some ⟨gb, off, none⟩) ln cl) ∧ BlkX w3 (W.heap.size + 1) tz (.slice none 0 0) ∧ (∀ p ∈ ps, IsL w3 (fun k => (P k ∧ k < W.heap.size) ∨ (W.heap.size + 1 + 1 ≤ k ∧ k ≠ g)) p.2 p.1.l)) := ⟨HO.out.1.ext E3, HO.out.2.2.1.trans E3, HB.out.1.ext E3, HB.out.2.ext E3, fun p hp => (HO.out.2.2.2.2 p hp).ext E3⟩
     have hw3 : W.heap.size + 1 < w3.heap.size := HO3.out.2.2.2.1.1
     clear hL E3 hy f12 k0 k1 k2 k3 k4 k5 k6 k7 k8 k9 k10 k11 k12 e0 e1 e2 e3 e4 e5 e6 e7 e8 e9 e10 e11 e12
     have HB4 : Hid (OwY (w3.alloc (.cells #[.int .i64 y.k, .int .i64 y.n, .string (bs y.s), .int .i64 y.e, .int .i64 y.r.1, .int .i64 y.r.2.1, .bool y.r.2.2.1, .bool y.r.2.2.2, .int .i64 y.q.1, .int .i64 y.q.2.1, .bool y.q.2.2.1, .bool y.q.2.2.2, .slice qq lm cm] 29)) (W.heap.size + 1 + 1) (.slice (some ⟨g, 0, none⟩) ps.length cap) ps) := HO3.out.1.ext ((Ext.refl _).alloc _)
     unfold aggX
     go_wp2_with (at_builtin; refine y_append _ (W.heap.size + 1 + 1) _ _ _ w3.heap.size ps y qq lm cm rfl rfl (by rfl) (by rfl) (by rw [← HO.out.2.2.2.1]; exact HB4.out) ?cR (by rw [HO.out.2.2.2.1]; omega) (by simp; omega) ?_)
     case cR =>
       intro j u hu
       rw [Addr.add_lit, cell_of_row _ _ _ _ _ (0, 0) (new_top w3 _), Nat.zero_add]
       rw [← hu, ← Array.getElem?_toList]; rfl
     intro v' w4 k1 k2 g4 cap4 hv4 k4
     subst hv4
     rw [← HO.out.2.2.2.1] at k2 k4
     have hg4 : g4 = g ∨ w3.heap.size ≤ g4 := by
       by_cases hg : g4 = g
       · exact .inl hg
       · rcases Nat.lt_or_ge g4 w3.heap.size with hlt4 | hge4
         · have := k4 g4 (by omega) (by simp [Value.ownBlock]; omega)
           simp [Value.ownBlock] at this
         · exact .inr hge4
     have HIL : Hid (∀ z l, IsL w3 (fun k => (P k ∧ k < W.heap.size) ∨ (W.heap.size + 1 + 1 ≤ k ∧ k ≠ g)) z l → IsL w4 (fun k => (P k ∧ k < W.heap.size) ∨ (W.heap.size + 1 + 1 ≤ k ∧ k ≠ g4)) z l) := fun z l hz =>
       (hz.mono (P' := fun k => ((P k ∧ k < W.heap.size) ∨ (W.heap.size + 1 + 1 ≤ k ∧ k ≠ g)) ∧ k < w3.heap.size) (fun k hk hs => ⟨hk, hs⟩)).ext ((Ext.refl _).alloc (.cells #[.int .i64 y.k, .int .i64 y.n, .string (bs y.s), .int .i64 y.e, .int .i64 y.r.1, .int .i64 y.r.2.1, .bool y.r.2.2.1, .bool y.r.2.2.2, .int .i64 y.q.1, .int .i64 y.q.2.1, .bool y.q.2.2.1, .bool y.q.2.2.2, .slice qq lm cm] 29)) |>.keep k2.size (fun k hk hs => k2.block k hs (by simp [Value.ownBlock]; rcases hk.1 with h | h <;> omega)) (fun k hk _ => by rcases hk.1 with h | h; exact .inl h; exact .inr ⟨h.1, by omega⟩)
     have HG : Hid (OwY w4 (W.heap.size + 1 + 1) (.slice (some ⟨g4, 0, none⟩) (ps.length + 1) cap4) (ps ++ [(y, .slice qq lm cm)]) ∧ Ext W w4 ∧ BlkX w4 W.heap.size t (.slice (some ⟨gb, off, none⟩) ln cl) ∧ BlkX w4 (W.heap.size + 1) tz (.slice none 0 0)) :=
       ⟨k1, ext_grownY k2 HB4.out (HO3.out.2.1.alloc _) (by omega), (HO3.out.2.2.1.ext ((Ext.refl _).alloc _)).grownY k2 HB4.out (by omega), (HO3.out.2.2.2.1.ext ((Ext.refl _).alloc _)).grownY k2 HB4.out (by omega)⟩
     clear k1 k2 k4 HB4 hg4
     go_wp2_with fail
     go_roundw
     case rel =>
       refine ⟨j + 1, g4, cap4, ps ++ [(y, .slice qq lm cm)], by omega, by rw [HO.out.2.2.2.1], by go_num, by rw [List.length_append, HO.out.2.2.2.1]; rfl, ?_, ?_, ?_, HG.out.2.2.1, HG.out.2.2.2, HG.out.2.1⟩
       · rw [List.length_append]; exact HG.out.1
       · intro p hp
         rcases List.mem_append.1 hp with hp | hp
         · exact HIL.out _ _ (HO3.out.2.2.2.2 p hp)
         · simp at hp; subst hp; exact HIL.out _ _ HL3.out
       · rw [List.map_append, HO.out.2.1, List.take_add_one, HX1.out]; simp [← HY.out]
     case measure => show ln - ((j : Int) + 1).toNat < ln - ((j : Int)).toNat; omega
   · have hltI : ¬ (j : Int) < (ln : Int) := by omega
     have hjl : j = ln := by omega
     have HT : Hid (ps.map Prod.fst = t.l.map (mpT (mvE row col) n)) := by show _ = _; rw [HO.out.2.1, hjl, HLN.out, List.take_length]
     clear hlt hjl
     obtain ⟨qy, ⟨y0, y1, y2, y3, y4, y5, y6, y7, y8, y9, y10, y11, y12⟩, g0, g1, g2, g3, g4, g5, g6, g7, g8, g9, g10, g11, g12⟩ := HB.out.2
     go_wp2_with fail
     have hLL := HO.out.1.isL (P := fun k => (P k ∧ k < W.heap.size) ∨ W.heap.size + 1 + 1 ≤ k) (fun k hk => .inr hk) (fun p hp => (HO.out.2.2.2.2 p hp).mono (fun k hk _ => by rcases hk with h | h; exact .inl h; exact .inr h.1))
     rw [HT.out, HO.out.2.2.2.1] at hLL
     have HLL : Hid (IsL wr (fun k => (P k ∧ k < W.heap.size) ∨ W.heap.size + 1 + 1 ≤ k) (.slice (some ⟨g, 0, none⟩) j cap) (t.l.map (mpT (mvE row col) n))) := hLL
     clear hLL
     obtain ⟨L, hLq⟩ : ∃ L, t.l.map (mpT (mvE row col) n) = L := ⟨_, rfl⟩
     rw [hLq] at HLL HX
     show bodyPost Try.prog _ _ _ _ (putX (wr.setCell ⟨W.heap.size, 12, none⟩ (.slice (some ⟨g, 0, none⟩) j cap)) (W.heap.size + 1) (t.wL L) (.slice (some ⟨g, 0, none⟩) j cap))
     have hB6 : BlkX (wr.setCell ⟨W.heap.size, 12, none⟩ (.slice (some ⟨g, 0, none⟩) j cap)) (W.heap.size + 1) tz (.slice none 0 0) := Blk13.far1 HB.out.2 (by omega) 12 _
     have hL6 : IsL (wr.setCell ⟨W.heap.size, 12, none⟩ (.slice (some ⟨g, 0, none⟩) j cap)) (fun k => (P k ∧ k < W.heap.size) ∨ W.heap.size + 1 + 1 ≤ k) (.slice (some ⟨g, 0, none⟩) j cap) L := HLL.out.keep (by simp [World.setCell]) (fun k hk _ => Below.heap_setCell _ _ _ _ (by simp; omega)) (fun _ h _ => h)
     have hE6 : Ext W (wr.setCell ⟨W.heap.size, 12, none⟩ (.slice (some ⟨g, 0, none⟩) j cap)) := HO.out.2.2.1.setCell (p := ⟨W.heap.size, 12, none⟩) (Nat.le_refl _) _
     generalize wr.setCell ⟨W.heap.size, 12, none⟩ (.slice (some ⟨g, 0, none⟩) j cap) = W6 at hB6 hL6 hE6 ⊢
     rw [HX.out]
     exact endR (hB6.put (t.wL L) _) rfl ⟨_, _, _, rfl, (putX_L hL6 (fun k hk => by omega)).mono (fun k hk _ => by rcases hk with h | h; exact .inl h.1; exact .inr (by omega)), putX_E hE6 (by omega) _ _⟩ (fun h0 h1 h2 h3 h4 h5 h6 h7 h8 h9 h10 h11 h12 => by simp [results, Try.results69, go_sem, h0, h1, h2, h3, h4, h5, h6, h7, h8, h9, h10, h11, h12, aggX])
theorem rback_any (row col : Int) (n : Nat) : ∀ t : T, Hr n t → ∀ (P : Nat → Prop) (W : World) (pp : Option Addr) (ln cl : Nat), IsL W P (.slice pp ln cl) t.l → Calls Try.prog 69 #[.agg #[.int .i64 t.k, .int .i64 t.n, .string (bs t.s), .int .i64 t.e, .int .i64 t.r.1, .int .i64 t.r.2.1, .bool t.r.2.2.1, .bool t.r.2.2.2, .int .i64 t.q.1, .int .i64 t.q.2.1, .bool t.q.2.2.1, .bool t.q.2.2.2, .slice pp ln cl], .int .i64 row, .int .i64 col] W (DcQ P W (mpT (mvE row col) n t)) := by
 induction n with
 | zero => intro t h; cases h
 | succ n ih =>
   intro t hr P W pp ln cl hL
   by_cases hp : t.k = 6 ∨ t.k = 7 ∨ t.k = 8
   · exact rback_n n t row col hp hr.1 (fun x hx => ih x (hr.2 x hx)) P W pp ln cl hL
   by_cases h4 : t.k = 4
   · exact rback_4 n t row col h4 P W pp ln cl hL
   by_cases h5 : t.k = 5
   · exact rback_5 n t row col h5 P W pp ln cl hL
   · exact rback_0 n t row col h4 h5 hp P W pp ln cl hL
end Go.Proofs.Ytjhmbkdkjgjoaaa
