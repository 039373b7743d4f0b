/-
 The document's truth: whether all, or any, are true.
 The document's concat: all texts joined.
-/
import Derived.Test.YtalejeknigbhjaaGreatDoorY21
import Derived.Lib.AppendStr
import Derived.Laws.IdiomStrings
namespace Go.Proofs.YtalejeknigbhjaaGreatDoor
open Go.RowKit
set_option maxHeartbeats 4000000

/-- What is looked at. -/
def lk (v : V) (a : Bool) : V := if a then v else v.toBool
theorem lk_cases (v : V) (a : Bool) : ((lk v a).k = 4 ∧ truF v a = lk v a) ∨ (((lk v a).k = 1 ∨ (lk v a).k = 2) ∧ goes (truF v a) = true ∧ ((truF v a).n = 0 ↔ (lk v a).n = 0)) ∨ (((lk v a).k = 0 ∨ (lk v a).k = 3) ∧ (truF v a).k = 0) := by
 cases a with
 | false =>
   have e1 : truF v false = v.toBool := rfl
   have e2 : lk v false = v.toBool := rfl
   rw [e1, e2]
   have h : v.toBool.k = 4 ∨ v.toBool.k = 1 := by
     cases v with
     | text s => unfold V.toBool; simp only; split; (right; rfl); split; (right; rfl); (left; rfl)
     | blank => right; rfl
     | tf b => right; rfl
     | num n => right; rfl
     | err e => left; rfl
   rcases h with h | h
   · exact .inl ⟨h, rfl⟩
   · exact .inr (.inl ⟨.inl h, by simp [goes, h], Iff.rfl⟩)
 | true =>
   cases v with
   | blank => exact .inr (.inr ⟨.inl rfl, rfl⟩)
   | text s => exact .inr (.inr ⟨.inr rfl, rfl⟩)
   | err e => exact .inl ⟨rfl, rfl⟩
   | tf b => exact .inr (.inl ⟨.inl rfl, rfl, Iff.rfl⟩)
   | num n =>
     refine .inr (.inl ⟨.inr rfl, rfl, ?_⟩)
     show (V.tf (n != 0)).n = 0 ↔ n = 0
     by_cases h : n = 0
     · subst h; simp [V.n]
     · have : (n != 0) = true := by simpa using h
       rw [this]; simp [V.n, h]
/-- How many are true, how many not. -/
def yesN (s : List (V × Bool)) : Nat := truN (got truF s)
def noN (s : List (V × Bool)) : Nat := (got truF s).length - truN (got truF s)
theorem yn_len (s : List (V × Bool)) : yesN s + noN s = (got truF s).length := by have := truN_le (got truF s); unfold yesN noN; omega
theorem gotT (s : List (V × Bool)) (x : V × Bool) : got truF (s ++ [x]) = if goes (truF x.1 x.2) then got truF s ++ [truF x.1 x.2] else got truF s := by
 rw [got_app]
 show got truF s ++ (if goes (truF x.1 x.2) then [truF x.1 x.2] else []) = _
 split
 · rfl
 · simp
theorem yn_yes (s : List (V × Bool)) (x : V × Bool) (h : goes (truF x.1 x.2) = true) (h0 : (truF x.1 x.2).n ≠ 0) : yesN (s ++ [x]) = yesN s + 1 ∧ noN (s ++ [x]) = noN s := by
 have := truN_le (got truF s)
 unfold yesN noN
 rw [gotT, if_pos h, truN_app]
 simp [truN, h0] <;> omega
theorem yn_no (s : List (V × Bool)) (x : V × Bool) (h : goes (truF x.1 x.2) = true) (h0 : (truF x.1 x.2).n = 0) : yesN (s ++ [x]) = yesN s ∧ noN (s ++ [x]) = noN s + 1 := by
 have := truN_le (got truF s)
 unfold yesN noN
 rw [gotT, if_pos h, truN_app]
 simp [truN, h0] <;> omega
theorem yn_same (s : List (V × Bool)) (x : V × Bool) (h : goes (truF x.1 x.2) = false) : yesN (s ++ [x]) = yesN s ∧ noN (s ++ [x]) = noN s := by
 unfold yesN noN
 rw [gotT, if_neg (by simp [h])]
 exact ⟨rfl, rfl⟩
theorem badT (s : List (V × Bool)) (x : V × Bool) : bad truF (s ++ [x]) = if (bad truF s).k = 4 then bad truF s else if (truF x.1 x.2).k = 4 then truF x.1 x.2 else .blank := bad_app truF s [x]
theorem badT_keep (s : List (V × Bool)) (x : V × Bool) (h : (truF x.1 x.2).k ≠ 4 ∨ (bad truF s).k = 4) : bad truF (s ++ [x]) = bad truF s := by
 rw [badT]
 rcases bad_kind truF s with k | k
 · rcases h with h | h
   · rw [k, if_neg (by decide), if_neg h]
   · rw [if_pos h]
 · rw [if_pos k]
/-- The state of truth when s was met. -/
structure Tru (W : World) (s : List (V × Bool)) (V' : World) : Prop where
 e : Ext W V'
 w : Blk V' (W.heap.size + 1) (.int .i64 (bad truF s).k) (.int .i64 (bad truF s).n) (.string (bad truF s).s) (.int .i64 (bad truF s).e)
 z : Blk V' W.heap.size (.int .i64 0) (.int .i64 0) (.string ⟨#[]⟩) (.int .i64 0)
theorem Tru.ext {W : World} {s : List (V × Bool)} {V1 V2 : World} (h : Tru W s V1) (e : Ext V1 V2) : Tru W s V2 := ⟨h.e.trans e, h.w.ext e, h.z.ext e⟩
theorem Tru.same {W : World} {s : List (V × Bool)} {V1 V2 : World} (h : Tru W s V1) (e : Ext V1 V2) (x : V × Bool) (hk : (truF x.1 x.2).k ≠ 4 ∨ (bad truF s).k = 4) : Tru W (s ++ [x]) V2 := by
 have hb := badT_keep s x hk
 obtain ⟨a, f, g⟩ := h.ext e
 exact ⟨a, by rw [hb]; exact f, g⟩
theorem Tru.err {W : World} {s : List (V × Bool)} {V1 V2 : World} (h : Tru W s V1) (e : Ext V1 V2) (x : V × Bool) (y : V) (hy : truF x.1 x.2 = y) (hk : y.k = 4) (hb4 : (bad truF s).k ≠ 4) : Tru W (s ++ [x]) (put4 V2 (W.heap.size + 1) (.int .i64 y.k) (.int .i64 y.n) (.string y.s) (.int .i64 y.e)) := by
 subst hy
 have hb : bad truF (s ++ [x]) = truF x.1 x.2 := by rw [badT, if_neg hb4, if_pos hk]
 obtain ⟨a, f, g⟩ := h.ext e
 refine ⟨?_, ?_, ?_⟩
 · exact (((a.setCell (by simp) _).setCell (by simp) _).setCell (by simp) _).setCell (by simp) _
 · rw [hb]; exact f.set _ _ _ _
 · exact g.far (by omega) _ _ _ _
set_option maxRecDepth 100000 in
theorem rtruth_any (gs : List Ag) (nmv : ByteArray) (bn : Bool) (hnm : nmv = if bn then ⟨#[65, 78, 68]⟩ else ⟨#[79, 82]⟩) (T : V) (hT : fTruth (if bn then ((noN (seen gs) : Int) == 0) else decide ((yesN (seen gs) : Int) > 0)) gs = T) (p : Option Addr) (n c : Nat) (W : World) (hF : Fit W (.slice p n c) gs) :
   Calls Tryz.prog 39 #[.string nmv, .slice p n c] W fun e w' => e = .returned T.dat ∧ Ext W w' := by
 have HTT : Hid (fTruth (if bn then ((noN (seen gs) : Int) == 0) else decide ((yesN (seen gs) : Int) > 0)) gs = T) := hT
 have HNM : Hid (nmv = if bn then ⟨#[65, 78, 68]⟩ else ⟨#[79, 82]⟩) := hnm
 clear hT hnm
 have HF : Hid (Fit W (.slice p n c) gs) := hF
 have HN : Hid (n = gs.length ∧ n ≤ 1500000) := by
   obtain ⟨p', c', h1, _⟩ := hF.rd
   cases h1
   exact ⟨rfl, hF.l⟩
 have HYL : Hid (∀ s : List (V × Bool), s.length ≤ 1500000 → yesN s ≤ 1500000 ∧ noN s ≤ 1500000 ∧ yesN s + noN s ≤ 1500000) := fun s h => by have h1 := yn_len s; have h2 := got_len truF s; omega
 clear hF
 go_enter Tryz.func39, Tryz.ntmps39
 go_wp2_with fail
 go_loopw [8, 5, 6] (fun iv yv nv wr => ∃ j : Nat, iv = .int .i64 (j : Int) ∧ yv = .int .i64 (yesN (seen (gs.take j)) : Int) ∧ nv = .int .i64 (noN (seen (gs.take j)) : Int) ∧ j ≤ n ∧ Tru W (seen (gs.take j)) wr) (fun iv _ _ _ => n - (intOf iv).toNat)
 case atStart =>
   refine ⟨0, rfl, rfl, rfl, Nat.zero_le _, ?_⟩
   exact ⟨((Ext.refl _).alloc _).alloc _, blk_top (by simp) (Ext.refl _), blk_top (by simp) ((Ext.refl _).alloc _)⟩
 case round =>
   generalize wr = wo at hrel ⊢
   obtain ⟨j, rfl, rfl, rfl, hj, hS⟩ := hrel
   have HS : Hid (Tru W (seen (gs.take j)) wo) := hS
   clear hS
   by_cases hlt : j < n
   · have hltI : (j : Int) < (n : Int) := by omega
     obtain ⟨b, off, a, x, y, lv, rfl, ha, hb, hbW, ⟨k0, k1, k2, k3⟩, hV⟩ := (HF.out.rd.low HS.out.e).at (i := j) (by rw [← HN.out.1]; exact hlt)
     obtain ⟨p', n', c', rfl, hn', hc'⟩ := hV.form
     have HV : Hid (RdV W.heap.size wo (.slice p' n' c') a.l ∧ gs[j]? = some a) := ⟨hV, ha⟩
     have WK : Hid (wrap64 ((j : Int) + 1) = ((j + 1 : Nat) : Int)) := wrap_1 j (by have := HN.out; omega)
     have hj1 : j + 1 ≤ n := by omega
     have CA : Hid (∀ V, Ext wo V → Calls Tryz.prog 45 #[.agg #[.bool a.area, .int .i64 x, .int .i64 y, .slice p' n' c']] V fun e w' => ∃ p' n' c', e = .returned (.slice p' n' c') ∧ (RdV W.heap.size w' (.slice p' n' c') (allL a) ∨ ((allL a).length = 1 ∧ RdV w'.heap.size w' (.slice p' n' c') (allL a))) ∧ Ext V w') := fun V e => all_any a x y p' n' c' W.heap.size V (Nat.le_trans HS.out.e.size e.size) (HV.out.1.low (Below.mono e HS.out.e.size))
     clear hV ha hn' hc' hb hlt
     go_wp2_with fail
     refine (CA.out _ (Ext.refl _)).mono ?_
     rintro e w1 ⟨p2, n2, c2, rfl, R2, E1⟩
     obtain ⟨RO, hn2⟩ := RdO.of R2
     have HR : Hid (RdO W.heap.size w1 (.slice p2 n2 c2) (allL a) 0 ∧ n2 = (allL a).length) := ⟨RO, hn2⟩
     have HT : Hid (seen (gs.take (j + 1)) = seen (gs.take j) ++ (allL a).map (fun r => (r.v, a.area))) := by show _ = _; rw [seen_take HV.out.2, seen1_all]
     have HU : Hid ((∀ r ∈ allL a, I64 r.n) ∧ (seen (gs.take j)).length + (allL a).length ≤ 1500000) := by
       refine ⟨allL_i a (HF.out.i a (List.mem_of_getElem? HV.out.2)), ?_⟩
       have h1 := seen_le HV.out.2
       have h2 := HF.out.s
       rw [allL_len]; omega
     have HS1 : Hid (Tru W (seen (gs.take j)) w1) := HS.out.ext E1
     clear R2 RO hn2 E1 k0 k1 k2 k3 hbW
     go_wp2_with fail
     go_loopw [10, 5, 6] (fun iv yv nv w3 => ∃ i : Nat, iv = .int .i64 (i : Int) ∧ yv = .int .i64 (yesN (seen (gs.take j) ++ ((allL a).take i).map (fun r => (r.v, a.area))) : Int) ∧ nv = .int .i64 (noN (seen (gs.take j) ++ ((allL a).take i).map (fun r => (r.v, a.area))) : Int) ∧ i ≤ n2 ∧ Tru W (seen (gs.take j) ++ ((allL a).take i).map (fun r => (r.v, a.area))) w3 ∧ RdO W.heap.size w3 (.slice p2 n2 c2) (allL a) i) (fun iv _ _ _ => n2 - (intOf iv).toNat)
     case atStart =>
       refine ⟨0, rfl, by simp, by simp, Nat.zero_le _, ?_, HR.out.1⟩
       simp only [List.take_zero, List.map_nil, List.append_nil]
       exact HS1.out
     case round =>
       obtain ⟨i, rfl, rfl, rfl, hi, hS, hO⟩ := hrel
       have H3 : Hid (Tru W (seen (gs.take j) ++ ((allL a).take i).map (fun r => (r.v, a.area))) wr ∧ RdO W.heap.size wr (.slice p2 n2 c2) (allL a) i) := ⟨hS, hO⟩
       clear hS hO
       by_cases hlt : i < n2
       · have hltJ : (i : Int) < (n2 : Int) := by omega
         obtain ⟨b', off', r, rfl, hr, hbW', k0, k1, k2, k3⟩ := H3.out.2.at (by rw [← HR.out.2]; exact hlt)
         obtain ⟨b3, off3, a3, x3, y3, lv3, hp3, ha3, _, hb3, ⟨l0, _, _, _⟩, _⟩ := (HF.out.rd.low H3.out.1.e).at (i := j) (by rw [← HN.out.1]; omega)
         rw [HV.out.2] at ha3
         cases hp3
         cases ha3
         have WI : Hid (wrap64 ((i : Int) + 1) = ((i + 1 : Nat) : Int)) := wrap_1 i (by have := HU.out.2; have := HR.out.2; omega)
         have hi1 : i + 1 ≤ n2 := by omega
         have HX : Hid ((allL a)[i]? = some r ∧ I64 r.n ∧ i < (allL a).length) := ⟨hr, HU.out.1 r (List.mem_of_getElem? hr), by rw [← HR.out.2]; exact hlt⟩
         obtain ⟨S, hS⟩ : ∃ S, seen (gs.take j) ++ ((allL a).take i).map (fun r => (r.v, a.area)) = S := ⟨_, rfl⟩
         have HT2 : Hid (seen (gs.take j) ++ ((allL a).take (i + 1)).map (fun r => (r.v, a.area)) = S ++ [(r.v, a.area)]) := by
           show _ = _
           rw [List.take_add_one, hr, List.map_append, ← List.append_assoc, hS]; rfl
         have HSL : Hid (S.length ≤ 1500000) := by
           show _ ≤ _
           rw [← hS]; simp; have := HU.out.2; omega
         rw [hS] at H3 ⊢
         have HD : Hid (∀ W', Tru W (S ++ [(r.v, a.area)]) W' → Below W.heap.size wr W' → Tru W (seen (gs.take j) ++ ((allL a).take (i + 1)).map (fun r => (r.v, a.area))) W' ∧ RdO W.heap.size W' (.slice (some ⟨b', off', none⟩) n2 c2) (allL a) (i + 1)) := fun W' h1 h2 => ⟨by rw [HT2.out]; exact h1, H3.out.2.next HX.out.2.2 h2⟩
         have WY : Hid (wrap64 ((yesN S : Int) + 1) = ((yesN S + 1 : Nat) : Int)) := wrap_1 _ (by have := HYL.out S HSL.out; omega)
         have WN : Hid (wrap64 ((noN S : Int) + 1) = ((noN S + 1 : Nat) : Int)) := wrap_1 _ (by have := HYL.out S HSL.out; omega)
         have cN := fun V => rnormal_any r.k r.n r.s r.e V
         have hok : r.v.ok := nm_ok _ _ _ _ HX.out.2.1
         have HVV : Hid (nm r.k r.n r.s r.e = r.v) := rfl
         have HLK : Hid (((lk r.v a.area).k = 4 ∧ truF r.v a.area = lk r.v a.area) ∨ (((lk r.v a.area).k = 1 ∨ (lk r.v a.area).k = 2) ∧ goes (truF r.v a.area) = true ∧ ((truF r.v a.area).n = 0 ↔ (lk r.v a.area).n = 0)) ∨ (((lk r.v a.area).k = 0 ∨ (lk r.v a.area).k = 3) ∧ (truF r.v a.area).k = 0)) := lk_cases _ _
         rw [HVV.out, dat_eq r.v] at cN
         clear hr hlt hS
         obtain ⟨zk, hzk⟩ : ∃ q, (bad truF S).k = q := ⟨_, rfl⟩
         have HZL : Hid ((bad truF S).k = zk) := hzk
         clear hzk
         obtain ⟨y0, hy0⟩ : ∃ q : Int, (yesN S : Int) = q := ⟨_, rfl⟩
         obtain ⟨n0, hn0⟩ : ∃ q : Int, (noN S : Int) = q := ⟨_, rfl⟩
         have HYN : Hid ((yesN S : Int) = y0 ∧ (noN S : Int) = n0) := ⟨hy0, hn0⟩
         rw [hy0] at WY ⊢
         rw [hn0] at WN ⊢
         clear hy0 hn0
         have hco : a.area = false ∨ a.area = true := by cases a.area <;> simp
         rcases hco with har | har
         · have HL2 : Hid (lk r.v a.area = r.v.toBool) := by show _ = _; rw [har]; rfl
           rw [HL2.out] at HLK
           rw [har] at l0
           have cT := fun V => rtobool_any r.v.k r.v.n r.v.s r.v.e V (nm_of _ hok).2
           rw [(nm_of _ hok).1, dat_eq r.v.toBool] at cT
           clear har hok HL2
           generalize r.v.toBool = u at *
           generalize r.v.k = vk at *
           generalize r.v.n = vn at *
           generalize r.v.s = vs' at *
           generalize r.v.e = ve at *
           obtain ⟨uk, huk⟩ : ∃ q, u.k = q := ⟨_, rfl⟩
           obtain ⟨un, hun⟩ : ∃ q, u.n = q := ⟨_, rfl⟩
           obtain ⟨us, hus⟩ : ∃ q, u.s = q := ⟨_, rfl⟩
           obtain ⟨ue, hue⟩ : ∃ q, u.e = q := ⟨_, rfl⟩
           have HUE : Hid (u.k = uk ∧ u.n = un ∧ u.s = us ∧ u.e = ue) := ⟨huk, hun, hus, hue⟩
           rw [huk, hun, hus, hue] at cT
           rw [huk, hun] at HLK
           clear huk hun hus hue
           rcases HLK.out with ⟨h4, HNF⟩ | ⟨hk, hg, hz0⟩ | ⟨hk, hg0⟩
           · have HNF' : Hid (truF r.v a.area = u) := HNF
             have HU4 : Hid (u.k = 4) := HUE.out.1.trans h4
             have e4 : (uk == 4) = true := by rw [h4]; rfl
             have e1 : (uk == 1) = false := by rw [h4]; rfl
             have e2 : (uk == 2) = false := by rw [h4]; rfl
             have YN : Hid (Value.int .i64 y0 = .int .i64 (yesN (S ++ [(r.v, a.area)]) : Int) ∧ Value.int .i64 n0 = .int .i64 (noN (S ++ [(r.v, a.area)]) : Int)) := by have q := yn_same S (r.v, a.area) (by show goes (truF _ _) = false; rw [HNF'.out]; simp [goes, HU4.out]); rw [q.1, q.2, HYN.out.1, HYN.out.2]; exact ⟨rfl, rfl⟩
             clear h4 HLK HNF
             by_cases hz : zk = 4
             · have ez : (zk != 4) = false := by simpa using hz
               have HZ4 : Hid ((bad truF S).k = 4) := HZL.out.trans hz
               clear hz
               go_wp2_with fail
               refine (cN _).mono ?_
               rintro e w4 ⟨rfl, E4⟩
               have m0 := (E4.cell.1 b _ hb3).trans l0
               have hb4 := Nat.lt_of_lt_of_le hb3 E4.size
               have X4 : Hid (Ext wr w4) := E4
               have hvw : wr.heap.size ≤ w4.heap.size := E4.size
               clear l0 hb3 k0 k1 k2 k3 hbW'
               clear E4
               go_wp2_with fail
               refine (cT _).mono ?_
               rintro e w5 ⟨rfl, E5⟩
               have X5 : Hid (Ext wr w5) := (X4.out.alloc _).trans E5
               have HB5 : Hid (Blk w5 w4.heap.size (.int .i64 vk) (.int .i64 vn) (.string vs') (.int .i64 ve)) := blk_top (by simp) E5
               obtain ⟨c0z, ⟨c0_0, c0_1, c0_2, c0_3⟩, c0f0, c0f1, c0f2, c0f3⟩ := HB5.out
               obtain ⟨q0z, ⟨q0, q1, q2, q3⟩, g0, g1, g2, g3⟩ := H3.out.1.w.ext X5.out
               rw [HZL.out] at q0
               have nvw : w4.heap.size ≠ W.heap.size + 1 := by have := H3.out.1.w.1; omega
               clear E5 m0 hb4
               have wi := WI.out
               go_wp2_with fail
               have XF := ((((X5.out.setCell (p := ⟨w4.heap.size, 0, none⟩) hvw (.int .i64 uk)).setCell (p := ⟨w4.heap.size, 1, none⟩) hvw (.int .i64 un)).setCell (p := ⟨w4.heap.size, 2, none⟩) hvw (.string us)).setCell (p := ⟨w4.heap.size, 3, none⟩) hvw (.int .i64 ue))
               go_roundw
               case rel => exact ⟨i + 1, by go_num, by rw [HT2.out]; exact YN.out.1, by rw [HT2.out]; exact YN.out.2, hi1, HD.out _ (H3.out.1.same XF (r.v, a.area) (.inr HZ4.out)) (Below.mono XF H3.out.1.e.size)⟩
               case measure => exact meas n2 i hi1 wi
             · have ez : (zk != 4) = true := by simpa using hz
               have HZ4 : Hid ((bad truF S).k ≠ 4) := by show _ ≠ _; rw [HZL.out]; exact hz
               clear hz
               go_wp2_with fail
               refine (cN _).mono ?_
               rintro e w4 ⟨rfl, E4⟩
               have m0 := (E4.cell.1 b _ hb3).trans l0
               have hb4 := Nat.lt_of_lt_of_le hb3 E4.size
               have X4 : Hid (Ext wr w4) := E4
               have hvw : wr.heap.size ≤ w4.heap.size := E4.size
               clear l0 hb3 k0 k1 k2 k3 hbW'
               clear E4
               go_wp2_with fail
               refine (cT _).mono ?_
               rintro e w5 ⟨rfl, E5⟩
               have X5 : Hid (Ext wr w5) := (X4.out.alloc _).trans E5
               have HB5 : Hid (Blk w5 w4.heap.size (.int .i64 vk) (.int .i64 vn) (.string vs') (.int .i64 ve)) := blk_top (by simp) E5
               obtain ⟨c0z, ⟨c0_0, c0_1, c0_2, c0_3⟩, c0f0, c0f1, c0f2, c0f3⟩ := HB5.out
               obtain ⟨q0z, ⟨q0, q1, q2, q3⟩, g0, g1, g2, g3⟩ := H3.out.1.w.ext X5.out
               rw [HZL.out] at q0
               have nvw : w4.heap.size ≠ W.heap.size + 1 := by have := H3.out.1.w.1; omega
               clear E5 m0 hb4
               have wi := WI.out
               go_wp2_with fail
               have NF := H3.out.1.err ((((X5.out.setCell (p := ⟨w4.heap.size, 0, none⟩) hvw (.int .i64 uk)).setCell (p := ⟨w4.heap.size, 1, none⟩) hvw (.int .i64 un)).setCell (p := ⟨w4.heap.size, 2, none⟩) hvw (.string us)).setCell (p := ⟨w4.heap.size, 3, none⟩) hvw (.int .i64 ue)) (r.v, a.area) u HNF'.out HU4.out HZ4.out
               rw [HUE.out.1, HUE.out.2.1, HUE.out.2.2.1, HUE.out.2.2.2] at NF
               go_roundw
               case rel => exact ⟨i + 1, by go_num, by rw [HT2.out]; exact YN.out.1, by rw [HT2.out]; exact YN.out.2, hi1, HD.out _ NF (Ext.between H3.out.1.e NF.e (by have := X5.out.size; simp [World.setCell]; omega))⟩
               case measure => exact meas n2 i hi1 wi
           · have HNK : Hid ((truF r.v a.area).k ≠ 4) := fun h => by simp [goes, h] at hg
             have HG : Hid (goes (truF r.v a.area) = true ∧ ((truF r.v a.area).n = 0 ↔ un = 0)) := ⟨hg, hz0⟩
             clear hg hz0 HLK
             by_cases h0 : un = 0
             · have ex : (un == 0) = true := by rw [h0]; rfl
               have ey : (un != 0) = false := by rw [h0]; rfl
               have YN : Hid (Value.int .i64 y0 = .int .i64 (yesN (S ++ [(r.v, a.area)]) : Int) ∧ Value.int .i64 (wrap64 (n0 + 1)) = .int .i64 (noN (S ++ [(r.v, a.area)]) : Int)) := by have q := yn_no S (r.v, a.area) HG.out.1 (HG.out.2.2 h0); rw [q.1, q.2, HYN.out.1, WN.out]; exact ⟨rfl, rfl⟩
               clear h0 WY WN
               rcases hk with hk | hk
               · have e4 : (uk == 4) = false := by rw [hk]; rfl
                 have e1 : (uk == 1) = true := by rw [hk]; rfl
                 have e2 : (uk == 2) = false := by rw [hk]; rfl
                 clear hk
                 go_wp2_with fail
                 refine (cN _).mono ?_
                 rintro e w4 ⟨rfl, E4⟩
                 have m0 := (E4.cell.1 b _ hb3).trans l0
                 have hb4 := Nat.lt_of_lt_of_le hb3 E4.size
                 have X4 : Hid (Ext wr w4) := E4
                 have hvw : wr.heap.size ≤ w4.heap.size := E4.size
                 clear l0 hb3 k0 k1 k2 k3 hbW'
                 clear E4
                 go_wp2_with fail
                 refine (cT _).mono ?_
                 rintro e w5 ⟨rfl, E5⟩
                 have X5 : Hid (Ext wr w5) := (X4.out.alloc _).trans E5
                 have HB5 : Hid (Blk w5 w4.heap.size (.int .i64 vk) (.int .i64 vn) (.string vs') (.int .i64 ve)) := blk_top (by simp) E5
                 obtain ⟨c0z, ⟨c0_0, c0_1, c0_2, c0_3⟩, c0f0, c0f1, c0f2, c0f3⟩ := HB5.out
                 obtain ⟨q0z, ⟨q0, q1, q2, q3⟩, g0, g1, g2, g3⟩ := H3.out.1.w.ext X5.out
                 rw [HZL.out] at q0
                 have nvw : w4.heap.size ≠ W.heap.size + 1 := by have := H3.out.1.w.1; omega
                 clear E5 m0 hb4
                 have wi := WI.out
                 go_wp2_with fail
                 have XF := ((((X5.out.setCell (p := ⟨w4.heap.size, 0, none⟩) hvw (.int .i64 uk)).setCell (p := ⟨w4.heap.size, 1, none⟩) hvw (.int .i64 un)).setCell (p := ⟨w4.heap.size, 2, none⟩) hvw (.string us)).setCell (p := ⟨w4.heap.size, 3, none⟩) hvw (.int .i64 ue))
                 go_roundw
                 case rel => exact ⟨i + 1, by go_num, by rw [HT2.out]; exact YN.out.1, by rw [HT2.out]; exact YN.out.2, hi1, HD.out _ (H3.out.1.same XF (r.v, a.area) (.inl HNK.out)) (Below.mono XF H3.out.1.e.size)⟩
                 case measure => exact meas n2 i hi1 wi
               · have e4 : (uk == 4) = false := by rw [hk]; rfl
                 have e1 : (uk == 1) = false := by rw [hk]; rfl
                 have e2 : (uk == 2) = true := by rw [hk]; rfl
                 clear hk
                 go_wp2_with fail
                 refine (cN _).mono ?_
                 rintro e w4 ⟨rfl, E4⟩
                 have m0 := (E4.cell.1 b _ hb3).trans l0
                 have hb4 := Nat.lt_of_lt_of_le hb3 E4.size
                 have X4 : Hid (Ext wr w4) := E4
                 have hvw : wr.heap.size ≤ w4.heap.size := E4.size
                 clear l0 hb3 k0 k1 k2 k3 hbW'
                 clear E4
                 go_wp2_with fail
                 refine (cT _).mono ?_
                 rintro e w5 ⟨rfl, E5⟩
                 have X5 : Hid (Ext wr w5) := (X4.out.alloc _).trans E5
                 have HB5 : Hid (Blk w5 w4.heap.size (.int .i64 vk) (.int .i64 vn) (.string vs') (.int .i64 ve)) := blk_top (by simp) E5
                 obtain ⟨c0z, ⟨c0_0, c0_1, c0_2, c0_3⟩, c0f0, c0f1, c0f2, c0f3⟩ := HB5.out
                 obtain ⟨q0z, ⟨q0, q1, q2, q3⟩, g0, g1, g2, g3⟩ := H3.out.1.w.ext X5.out
                 rw [HZL.out] at q0
                 have nvw : w4.heap.size ≠ W.heap.size + 1 := by have := H3.out.1.w.1; omega
                 clear E5 m0 hb4
                 have wi := WI.out
                 go_wp2_with fail
                 have XF := ((((X5.out.setCell (p := ⟨w4.heap.size, 0, none⟩) hvw (.int .i64 uk)).setCell (p := ⟨w4.heap.size, 1, none⟩) hvw (.int .i64 un)).setCell (p := ⟨w4.heap.size, 2, none⟩) hvw (.string us)).setCell (p := ⟨w4.heap.size, 3, none⟩) hvw (.int .i64 ue))
                 go_roundw
                 case rel => exact ⟨i + 1, by go_num, by rw [HT2.out]; exact YN.out.1, by rw [HT2.out]; exact YN.out.2, hi1, HD.out _ (H3.out.1.same XF (r.v, a.area) (.inl HNK.out)) (Below.mono XF H3.out.1.e.size)⟩
                 case measure => exact meas n2 i hi1 wi
             · have ex : (un == 0) = false := by simpa using h0
               have ey : (un != 0) = true := by simpa using h0
               have YN : Hid (Value.int .i64 (wrap64 (y0 + 1)) = .int .i64 (yesN (S ++ [(r.v, a.area)]) : Int) ∧ Value.int .i64 n0 = .int .i64 (noN (S ++ [(r.v, a.area)]) : Int)) := by have q := yn_yes S (r.v, a.area) HG.out.1 (fun h => h0 (HG.out.2.1 h)); rw [q.1, q.2, HYN.out.2, WY.out]; exact ⟨rfl, rfl⟩
               clear h0 WY WN
               rcases hk with hk | hk
               · have e4 : (uk == 4) = false := by rw [hk]; rfl
                 have e1 : (uk == 1) = true := by rw [hk]; rfl
                 have e2 : (uk == 2) = false := by rw [hk]; rfl
                 clear hk
                 go_wp2_with fail
                 refine (cN _).mono ?_
                 rintro e w4 ⟨rfl, E4⟩
                 have m0 := (E4.cell.1 b _ hb3).trans l0
                 have hb4 := Nat.lt_of_lt_of_le hb3 E4.size
                 have X4 : Hid (Ext wr w4) := E4
                 have hvw : wr.heap.size ≤ w4.heap.size := E4.size
                 clear l0 hb3 k0 k1 k2 k3 hbW'
                 clear E4
                 go_wp2_with fail
                 refine (cT _).mono ?_
                 rintro e w5 ⟨rfl, E5⟩
                 have X5 : Hid (Ext wr w5) := (X4.out.alloc _).trans E5
                 have HB5 : Hid (Blk w5 w4.heap.size (.int .i64 vk) (.int .i64 vn) (.string vs') (.int .i64 ve)) := blk_top (by simp) E5
                 obtain ⟨c0z, ⟨c0_0, c0_1, c0_2, c0_3⟩, c0f0, c0f1, c0f2, c0f3⟩ := HB5.out
                 obtain ⟨q0z, ⟨q0, q1, q2, q3⟩, g0, g1, g2, g3⟩ := H3.out.1.w.ext X5.out
                 rw [HZL.out] at q0
                 have nvw : w4.heap.size ≠ W.heap.size + 1 := by have := H3.out.1.w.1; omega
                 clear E5 m0 hb4
                 have wi := WI.out
                 go_wp2_with fail
                 have XF := ((((X5.out.setCell (p := ⟨w4.heap.size, 0, none⟩) hvw (.int .i64 uk)).setCell (p := ⟨w4.heap.size, 1, none⟩) hvw (.int .i64 un)).setCell (p := ⟨w4.heap.size, 2, none⟩) hvw (.string us)).setCell (p := ⟨w4.heap.size, 3, none⟩) hvw (.int .i64 ue))
                 go_roundw
                 case rel => exact ⟨i + 1, by go_num, by rw [HT2.out]; exact YN.out.1, by rw [HT2.out]; exact YN.out.2, hi1, HD.out _ (H3.out.1.same XF (r.v, a.area) (.inl HNK.out)) (Below.mono XF H3.out.1.e.size)⟩
                 case measure => exact meas n2 i hi1 wi
               · have e4 : (uk == 4) = false := by rw [hk]; rfl
                 have e1 : (uk == 1) = false := by rw [hk]; rfl
                 have e2 : (uk == 2) = true := by rw [hk]; rfl
                 clear hk
                 go_wp2_with fail
                 refine (cN _).mono ?_
                 rintro e w4 ⟨rfl, E4⟩
                 have m0 := (E4.cell.1 b _ hb3).trans l0
                 have hb4 := Nat.lt_of_lt_of_le hb3 E4.size
                 have X4 : Hid (Ext wr w4) := E4
                 have hvw : wr.heap.size ≤ w4.heap.size := E4.size
                 clear l0 hb3 k0 k1 k2 k3 hbW'
                 clear E4
                 go_wp2_with fail
                 refine (cT _).mono ?_
                 rintro e w5 ⟨rfl, E5⟩
                 have X5 : Hid (Ext wr w5) := (X4.out.alloc _).trans E5
                 have HB5 : Hid (Blk w5 w4.heap.size (.int .i64 vk) (.int .i64 vn) (.string vs') (.int .i64 ve)) := blk_top (by simp) E5
                 obtain ⟨c0z, ⟨c0_0, c0_1, c0_2, c0_3⟩, c0f0, c0f1, c0f2, c0f3⟩ := HB5.out
                 obtain ⟨q0z, ⟨q0, q1, q2, q3⟩, g0, g1, g2, g3⟩ := H3.out.1.w.ext X5.out
                 rw [HZL.out] at q0
                 have nvw : w4.heap.size ≠ W.heap.size + 1 := by have := H3.out.1.w.1; omega
                 clear E5 m0 hb4
                 have wi := WI.out
                 go_wp2_with fail
                 have XF := ((((X5.out.setCell (p := ⟨w4.heap.size, 0, none⟩) hvw (.int .i64 uk)).setCell (p := ⟨w4.heap.size, 1, none⟩) hvw (.int .i64 un)).setCell (p := ⟨w4.heap.size, 2, none⟩) hvw (.string us)).setCell (p := ⟨w4.heap.size, 3, none⟩) hvw (.int .i64 ue))
                 go_roundw
                 case rel => exact ⟨i + 1, by go_num, by rw [HT2.out]; exact YN.out.1, by rw [HT2.out]; exact YN.out.2, hi1, HD.out _ (H3.out.1.same XF (r.v, a.area) (.inl HNK.out)) (Below.mono XF H3.out.1.e.size)⟩
                 case measure => exact meas n2 i hi1 wi
           · have HNK : Hid ((truF r.v a.area).k ≠ 4) := by show _ ≠ _; rw [hg0]; decide
             have YN : Hid (Value.int .i64 y0 = .int .i64 (yesN (S ++ [(r.v, a.area)]) : Int) ∧ Value.int .i64 n0 = .int .i64 (noN (S ++ [(r.v, a.area)]) : Int)) := by have q := yn_same S (r.v, a.area) (by show goes (truF _ _) = false; simp [goes, hg0]); rw [q.1, q.2, HYN.out.1, HYN.out.2]; exact ⟨rfl, rfl⟩
             have e4 : (uk == 4) = false := by rcases hk with hk | hk <;> (rw [hk]; rfl)
             have e1 : (uk == 1) = false := by rcases hk with hk | hk <;> (rw [hk]; rfl)
             have e2 : (uk == 2) = false := by rcases hk with hk | hk <;> (rw [hk]; rfl)
             clear hk hg0 HLK
             go_wp2_with fail
             refine (cN _).mono ?_
             rintro e w4 ⟨rfl, E4⟩
             have m0 := (E4.cell.1 b _ hb3).trans l0
             have hb4 := Nat.lt_of_lt_of_le hb3 E4.size
             have X4 : Hid (Ext wr w4) := E4
             have hvw : wr.heap.size ≤ w4.heap.size := E4.size
             clear l0 hb3 k0 k1 k2 k3 hbW'
             clear E4
             go_wp2_with fail
             refine (cT _).mono ?_
             rintro e w5 ⟨rfl, E5⟩
             have X5 : Hid (Ext wr w5) := (X4.out.alloc _).trans E5
             have HB5 : Hid (Blk w5 w4.heap.size (.int .i64 vk) (.int .i64 vn) (.string vs') (.int .i64 ve)) := blk_top (by simp) E5
             obtain ⟨c0z, ⟨c0_0, c0_1, c0_2, c0_3⟩, c0f0, c0f1, c0f2, c0f3⟩ := HB5.out
             obtain ⟨q0z, ⟨q0, q1, q2, q3⟩, g0, g1, g2, g3⟩ := H3.out.1.w.ext X5.out
             rw [HZL.out] at q0
             have nvw : w4.heap.size ≠ W.heap.size + 1 := by have := H3.out.1.w.1; omega
             clear E5 m0 hb4
             have wi := WI.out
             go_wp2_with fail
             have XF := ((((X5.out.setCell (p := ⟨w4.heap.size, 0, none⟩) hvw (.int .i64 uk)).setCell (p := ⟨w4.heap.size, 1, none⟩) hvw (.int .i64 un)).setCell (p := ⟨w4.heap.size, 2, none⟩) hvw (.string us)).setCell (p := ⟨w4.heap.size, 3, none⟩) hvw (.int .i64 ue))
             go_roundw
             case rel => exact ⟨i + 1, by go_num, by rw [HT2.out]; exact YN.out.1, by rw [HT2.out]; exact YN.out.2, hi1, HD.out _ (H3.out.1.same XF (r.v, a.area) (.inl HNK.out)) (Below.mono XF H3.out.1.e.size)⟩
             case measure => exact meas n2 i hi1 wi
         · have HL2 : Hid (lk r.v a.area = r.v) := by show _ = _; rw [har]; rfl
           rw [HL2.out] at HLK
           rw [har] at l0
           clear har hok HL2
           generalize r.v = u at *
           obtain ⟨uk, huk⟩ : ∃ q, u.k = q := ⟨_, rfl⟩
           obtain ⟨un, hun⟩ : ∃ q, u.n = q := ⟨_, rfl⟩
           obtain ⟨us, hus⟩ : ∃ q, u.s = q := ⟨_, rfl⟩
           obtain ⟨ue, hue⟩ : ∃ q, u.e = q := ⟨_, rfl⟩
           have HUE : Hid (u.k = uk ∧ u.n = un ∧ u.s = us ∧ u.e = ue) := ⟨huk, hun, hus, hue⟩
           rw [huk, hun, hus, hue] at cN
           rw [huk, hun] at HLK
           clear huk hun hus hue
           rcases HLK.out with ⟨h4, HNF⟩ | ⟨hk, hg, hz0⟩ | ⟨hk, hg0⟩
           · have HNF' : Hid (truF u a.area = u) := HNF
             have HU4 : Hid (u.k = 4) := HUE.out.1.trans h4
             have e4 : (uk == 4) = true := by rw [h4]; rfl
             have e1 : (uk == 1) = false := by rw [h4]; rfl
             have e2 : (uk == 2) = false := by rw [h4]; rfl
             have YN : Hid (Value.int .i64 y0 = .int .i64 (yesN (S ++ [(u, a.area)]) : Int) ∧ Value.int .i64 n0 = .int .i64 (noN (S ++ [(u, a.area)]) : Int)) := by have q := yn_same S (u, a.area) (by show goes (truF _ _) = false; rw [HNF'.out]; simp [goes, HU4.out]); rw [q.1, q.2, HYN.out.1, HYN.out.2]; exact ⟨rfl, rfl⟩
             clear h4 HLK HNF
             by_cases hz : zk = 4
             · have ez : (zk != 4) = false := by simpa using hz
               have HZ4 : Hid ((bad truF S).k = 4) := HZL.out.trans hz
               clear hz
               go_wp2_with fail
               refine (cN _).mono ?_
               rintro e w4 ⟨rfl, E4⟩
               have m0 := (E4.cell.1 b _ hb3).trans l0
               have hb4 := Nat.lt_of_lt_of_le hb3 E4.size
               have X4 : Hid (Ext wr w4) := E4
               have hvw : wr.heap.size ≤ w4.heap.size := E4.size
               clear l0 hb3 k0 k1 k2 k3 hbW'
               obtain ⟨q0z, ⟨q0, q1, q2, q3⟩, g0, g1, g2, g3⟩ := H3.out.1.w.ext E4
               rw [HZL.out] at q0
               clear E4
               have wi := WI.out
               go_wp2_with fail
               have XF := (X4.out.alloc (.cells #[.int .i64 uk, .int .i64 un, .string us, .int .i64 ue] 25))
               go_roundw
               case rel => exact ⟨i + 1, by go_num, by rw [HT2.out]; exact YN.out.1, by rw [HT2.out]; exact YN.out.2, hi1, HD.out _ (H3.out.1.same XF (u, a.area) (.inr HZ4.out)) (Below.mono XF H3.out.1.e.size)⟩
               case measure => exact meas n2 i hi1 wi
             · have ez : (zk != 4) = true := by simpa using hz
               have HZ4 : Hid ((bad truF S).k ≠ 4) := by show _ ≠ _; rw [HZL.out]; exact hz
               clear hz
               go_wp2_with fail
               refine (cN _).mono ?_
               rintro e w4 ⟨rfl, E4⟩
               have m0 := (E4.cell.1 b _ hb3).trans l0
               have hb4 := Nat.lt_of_lt_of_le hb3 E4.size
               have X4 : Hid (Ext wr w4) := E4
               have hvw : wr.heap.size ≤ w4.heap.size := E4.size
               clear l0 hb3 k0 k1 k2 k3 hbW'
               obtain ⟨q0z, ⟨q0, q1, q2, q3⟩, g0, g1, g2, g3⟩ := H3.out.1.w.ext E4
               rw [HZL.out] at q0
               clear E4
               have wi := WI.out
               go_wp2_with fail
               have NF := ((H3.out.1.err X4.out (u, a.area) u HNF'.out HU4.out HZ4.out).ext ((Ext.refl _).alloc (.cells #[.int .i64 uk, .int .i64 un, .string us, .int .i64 ue] 25)))
               rw [HUE.out.1, HUE.out.2.1, HUE.out.2.2.1, HUE.out.2.2.2] at NF
               go_roundw
               case rel => exact ⟨i + 1, by go_num, by rw [HT2.out]; exact YN.out.1, by rw [HT2.out]; exact YN.out.2, hi1, HD.out _ NF (Ext.between H3.out.1.e NF.e (by have := X4.out.size; simp [World.setCell]; omega))⟩
               case measure => exact meas n2 i hi1 wi
           · have HNK : Hid ((truF u a.area).k ≠ 4) := fun h => by simp [goes, h] at hg
             have HG : Hid (goes (truF u a.area) = true ∧ ((truF u a.area).n = 0 ↔ un = 0)) := ⟨hg, hz0⟩
             clear hg hz0 HLK
             by_cases h0 : un = 0
             · have ex : (un == 0) = true := by rw [h0]; rfl
               have ey : (un != 0) = false := by rw [h0]; rfl
               have YN : Hid (Value.int .i64 y0 = .int .i64 (yesN (S ++ [(u, a.area)]) : Int) ∧ Value.int .i64 (wrap64 (n0 + 1)) = .int .i64 (noN (S ++ [(u, a.area)]) : Int)) := by have q := yn_no S (u, a.area) HG.out.1 (HG.out.2.2 h0); rw [q.1, q.2, HYN.out.1, WN.out]; exact ⟨rfl, rfl⟩
               clear h0 WY WN
               rcases hk with hk | hk
               · have e4 : (uk == 4) = false := by rw [hk]; rfl
                 have e1 : (uk == 1) = true := by rw [hk]; rfl
                 have e2 : (uk == 2) = false := by rw [hk]; rfl
                 clear hk
                 go_wp2_with fail
                 refine (cN _).mono ?_
                 rintro e w4 ⟨rfl, E4⟩
                 have m0 := (E4.cell.1 b _ hb3).trans l0
                 have hb4 := Nat.lt_of_lt_of_le hb3 E4.size
                 have X4 : Hid (Ext wr w4) := E4
                 have hvw : wr.heap.size ≤ w4.heap.size := E4.size
                 clear l0 hb3 k0 k1 k2 k3 hbW'
                 obtain ⟨q0z, ⟨q0, q1, q2, q3⟩, g0, g1, g2, g3⟩ := H3.out.1.w.ext E4
                 rw [HZL.out] at q0
                 clear E4
                 have wi := WI.out
                 go_wp2_with fail
                 have XF := (X4.out.alloc (.cells #[.int .i64 uk, .int .i64 un, .string us, .int .i64 ue] 25))
                 go_roundw
                 case rel => exact ⟨i + 1, by go_num, by rw [HT2.out]; exact YN.out.1, by rw [HT2.out]; exact YN.out.2, hi1, HD.out _ (H3.out.1.same XF (u, a.area) (.inl HNK.out)) (Below.mono XF H3.out.1.e.size)⟩
                 case measure => exact meas n2 i hi1 wi
               · have e4 : (uk == 4) = false := by rw [hk]; rfl
                 have e1 : (uk == 1) = false := by rw [hk]; rfl
                 have e2 : (uk == 2) = true := by rw [hk]; rfl
                 clear hk
                 go_wp2_with fail
                 refine (cN _).mono ?_
                 rintro e w4 ⟨rfl, E4⟩
                 have m0 := (E4.cell.1 b _ hb3).trans l0
                 have hb4 := Nat.lt_of_lt_of_le hb3 E4.size
                 have X4 : Hid (Ext wr w4) := E4
                 have hvw : wr.heap.size ≤ w4.heap.size := E4.size
                 clear l0 hb3 k0 k1 k2 k3 hbW'
                 obtain ⟨q0z, ⟨q0, q1, q2, q3⟩, g0, g1, g2, g3⟩ := H3.out.1.w.ext E4
                 rw [HZL.out] at q0
                 clear E4
                 have wi := WI.out
                 go_wp2_with fail
                 have XF := (X4.out.alloc (.cells #[.int .i64 uk, .int .i64 un, .string us, .int .i64 ue] 25))
                 go_roundw
                 case rel => exact ⟨i + 1, by go_num, by rw [HT2.out]; exact YN.out.1, by rw [HT2.out]; exact YN.out.2, hi1, HD.out _ (H3.out.1.same XF (u, a.area) (.inl HNK.out)) (Below.mono XF H3.out.1.e.size)⟩
                 case measure => exact meas n2 i hi1 wi
             · have ex : (un == 0) = false := by simpa using h0
               have ey : (un != 0) = true := by simpa using h0
               have YN : Hid (Value.int .i64 (wrap64 (y0 + 1)) = .int .i64 (yesN (S ++ [(u, a.area)]) : Int) ∧ Value.int .i64 n0 = .int .i64 (noN (S ++ [(u, a.area)]) : Int)) := by have q := yn_yes S (u, a.area) HG.out.1 (fun h => h0 (HG.out.2.1 h)); rw [q.1, q.2, HYN.out.2, WY.out]; exact ⟨rfl, rfl⟩
               clear h0 WY WN
               rcases hk with hk | hk
               · have e4 : (uk == 4) = false := by rw [hk]; rfl
                 have e1 : (uk == 1) = true := by rw [hk]; rfl
                 have e2 : (uk == 2) = false := by rw [hk]; rfl
                 clear hk
                 go_wp2_with fail
                 refine (cN _).mono ?_
                 rintro e w4 ⟨rfl, E4⟩
                 have m0 := (E4.cell.1 b _ hb3).trans l0
                 have hb4 := Nat.lt_of_lt_of_le hb3 E4.size
                 have X4 : Hid (Ext wr w4) := E4
                 have hvw : wr.heap.size ≤ w4.heap.size := E4.size
                 clear l0 hb3 k0 k1 k2 k3 hbW'
                 obtain ⟨q0z, ⟨q0, q1, q2, q3⟩, g0, g1, g2, g3⟩ := H3.out.1.w.ext E4
                 rw [HZL.out] at q0
                 clear E4
                 have wi := WI.out
                 go_wp2_with fail
                 have XF := (X4.out.alloc (.cells #[.int .i64 uk, .int .i64 un, .string us, .int .i64 ue] 25))
                 go_roundw
                 case rel => exact ⟨i + 1, by go_num, by rw [HT2.out]; exact YN.out.1, by rw [HT2.out]; exact YN.out.2, hi1, HD.out _ (H3.out.1.same XF (u, a.area) (.inl HNK.out)) (Below.mono XF H3.out.1.e.size)⟩
                 case measure => exact meas n2 i hi1 wi
               · have e4 : (uk == 4) = false := by rw [hk]; rfl
                 have e1 : (uk == 1) = false := by rw [hk]; rfl
                 have e2 : (uk == 2) = true := by rw [hk]; rfl
                 clear hk
                 go_wp2_with fail
                 refine (cN _).mono ?_
                 rintro e w4 ⟨rfl, E4⟩
                 have m0 := (E4.cell.1 b _ hb3).trans l0
                 have hb4 := Nat.lt_of_lt_of_le hb3 E4.size
                 have X4 : Hid (Ext wr w4) := E4
                 have hvw : wr.heap.size ≤ w4.heap.size := E4.size
                 clear l0 hb3 k0 k1 k2 k3 hbW'
                 obtain ⟨q0z, ⟨q0, q1, q2, q3⟩, g0, g1, g2, g3⟩ := H3.out.1.w.ext E4
                 rw [HZL.out] at q0
                 clear E4
                 have wi := WI.out
                 go_wp2_with fail
                 have XF := (X4.out.alloc (.cells #[.int .i64 uk, .int .i64 un, .string us, .int .i64 ue] 25))
                 go_roundw
                 case rel => exact ⟨i + 1, by go_num, by rw [HT2.out]; exact YN.out.1, by rw [HT2.out]; exact YN.out.2, hi1, HD.out _ (H3.out.1.same XF (u, a.area) (.inl HNK.out)) (Below.mono XF H3.out.1.e.size)⟩
                 case measure => exact meas n2 i hi1 wi
           · have HNK : Hid ((truF u a.area).k ≠ 4) := by show _ ≠ _; rw [hg0]; decide
             have YN : Hid (Value.int .i64 y0 = .int .i64 (yesN (S ++ [(u, a.area)]) : Int) ∧ Value.int .i64 n0 = .int .i64 (noN (S ++ [(u, a.area)]) : Int)) := by have q := yn_same S (u, a.area) (by show goes (truF _ _) = false; simp [goes, hg0]); rw [q.1, q.2, HYN.out.1, HYN.out.2]; exact ⟨rfl, rfl⟩
             have e4 : (uk == 4) = false := by rcases hk with hk | hk <;> (rw [hk]; rfl)
             have e1 : (uk == 1) = false := by rcases hk with hk | hk <;> (rw [hk]; rfl)
             have e2 : (uk == 2) = false := by rcases hk with hk | hk <;> (rw [hk]; rfl)
             clear hk hg0 HLK
             go_wp2_with fail
             refine (cN _).mono ?_
             rintro e w4 ⟨rfl, E4⟩
             have m0 := (E4.cell.1 b _ hb3).trans l0
             have hb4 := Nat.lt_of_lt_of_le hb3 E4.size
             have X4 : Hid (Ext wr w4) := E4
             have hvw : wr.heap.size ≤ w4.heap.size := E4.size
             clear l0 hb3 k0 k1 k2 k3 hbW'
             obtain ⟨q0z, ⟨q0, q1, q2, q3⟩, g0, g1, g2, g3⟩ := H3.out.1.w.ext E4
             rw [HZL.out] at q0
             clear E4
             have wi := WI.out
             go_wp2_with fail
             have XF := (X4.out.alloc (.cells #[.int .i64 uk, .int .i64 un, .string us, .int .i64 ue] 25))
             go_roundw
             case rel => exact ⟨i + 1, by go_num, by rw [HT2.out]; exact YN.out.1, by rw [HT2.out]; exact YN.out.2, hi1, HD.out _ (H3.out.1.same XF (u, a.area) (.inl HNK.out)) (Below.mono XF H3.out.1.e.size)⟩
             case measure => exact meas n2 i hi1 wi
       · have hltJ : ¬ (i : Int) < (n2 : Int) := by omega
         have HQ : Hid (seen (gs.take j) ++ ((allL a).take i).map (fun r => (r.v, a.area)) = seen (gs.take (j + 1))) := by
           have h2 := HR.out.2
           show _ = _
           rw [show (allL a).take i = allL a from List.take_of_length_le (by omega), HT.out]
         rw [HQ.out] at H3 ⊢
         clear hlt
         have wk := WK.out
         go_wp2_with fail
         go_roundw
         case rel => exact ⟨j + 1, by go_num, rfl, rfl, hj1, H3.out.1⟩
         case measure => exact meas n j hj1 wk
   · have hltI : ¬ (j : Int) < (n : Int) := by omega
     have HQ : Hid (gs.take j = gs) := List.take_of_length_le (by have h2 := HN.out.1; omega)
     rw [HQ.out] at HS ⊢
     have HB := HYL.out (seen gs) HF.out.s
     have HR : Hid (fTruth (if bn then ((noN (seen gs) : Int) == 0) else decide ((yesN (seen gs) : Int) > 0)) gs = if (bad truF (seen gs)).k = 4 then bad truF (seen gs) else if (yesN (seen gs) : Int) + (noN (seen gs) : Int) = 0 then .err 2 else .tf (if bn then ((noN (seen gs) : Int) == 0) else decide ((yesN (seen gs) : Int) > 0))) := by
       show _ = _
       have h1 := yn_len (seen gs)
       unfold fTruth orBad
       rw [← h1]
       by_cases q : yesN (seen gs) + noN (seen gs) = 0
       · rw [if_pos q, if_pos (show (yesN (seen gs) : Int) + (noN (seen gs) : Int) = 0 by omega)]
       · rw [if_neg q, if_neg (show ¬ (yesN (seen gs) : Int) + (noN (seen gs) : Int) = 0 by omega)]
     have HD : Hid ((bad truF (seen gs)).dat = .agg #[.int .i64 (bad truF (seen gs)).k, .int .i64 (bad truF (seen gs)).n, .string (bad truF (seen gs)).s, .int .i64 (bad truF (seen gs)).e]) := dat_eq _
     rw [HTT.out] at HR
     have ws : wrap64 ((yesN (seen gs) : Int) + (noN (seen gs) : Int)) = (yesN (seen gs) : Int) + (noN (seen gs) : Int) := by unfold wrap64; omega
     obtain ⟨zz, ⟨z0, z1, z2, z3⟩, f0, f1, f2, f3⟩ := HS.out.z
     obtain ⟨qz, ⟨q0, q1, q2, q3⟩, g0, g1, g2, g3⟩ := HS.out.w
     obtain ⟨zk, hzk⟩ : ∃ q, (bad truF (seen gs)).k = q := ⟨_, rfl⟩
     obtain ⟨zn, hzn⟩ : ∃ q, (bad truF (seen gs)).n = q := ⟨_, rfl⟩
     obtain ⟨zs', hzs⟩ : ∃ q, (bad truF (seen gs)).s = q := ⟨_, rfl⟩
     obtain ⟨ze, hze⟩ : ∃ q, (bad truF (seen gs)).e = q := ⟨_, rfl⟩
     rw [hzk, hzn, hzs, hze] at HD
     rw [hzk] at q0 HR
     rw [hzn] at q1
     rw [hzs] at q2
     rw [hze] at q3
     have HZ0 : Hid (Blk wo W.heap.size (.int .i64 0) (.int .i64 0) (.string ⟨#[]⟩) (.int .i64 0)) := HS.out.z
     have X0 : Hid (Ext W wo) := HS.out.e
     generalize bad truF (seen gs) = zv at *
     obtain ⟨y0, hy0⟩ : ∃ q : Int, (yesN (seen gs) : Int) = q := ⟨_, rfl⟩
     obtain ⟨n0, hn0⟩ : ∃ q : Int, (noN (seen gs) : Int) = q := ⟨_, rfl⟩
     rw [hy0, hn0] at HR ws
     rw [hy0, hn0]
     clear hlt hj hzk hzn hzs hze HB hy0 hn0
     by_cases h4 : zk = 4
     · have e4 : (zk == 4) = true := by rw [h4]; rfl
       have HZ : Hid (T = zv) := by show _ = _; rw [HR.out, if_pos h4]
       clear h4 HR
       go_wp2_with fail
       exact finB (HZ0.out.set _ _ _ _) rfl ((((X0.out.setCell (by simp) _).setCell (by simp) _).setCell (by simp) _).setCell (by simp) _) (fun g0 g1 g2 g3 => by simp [results, Tryz.results39, go_sem, g0, g1, g2, g3]) (fun h => ⟨by rw [HZ.out, HD.out], h⟩)
     have e4 : (zk == 4) = false := by simpa using h4
     rw [if_neg h4] at HR
     clear h4
     by_cases hs : y0 + n0 = 0
     · have es : (y0 + n0 == 0) = true := by rw [hs]; rfl
       have HZ : Hid (T = .err 2) := by show _ = _; rw [HR.out, if_pos hs]
       have cE := fun V => rerr_any 2 V
       rw [mkErr_is ⟨by decide, by decide⟩] at cE
       simp only [V.dat] at cE
       clear hs HR
       go_wp2_with fail
       refine (cE _).mono ?_
       rintro e w5 ⟨rfl, E5⟩
       have X5 : Hid (Ext W w5) := by first | exact X0.out.trans E5 | exact (X0.out.alloc _).trans E5
       have HB5 : Hid (Blk w5 W.heap.size (.int .i64 0) (.int .i64 0) (.string ⟨#[]⟩) (.int .i64 0)) := by first | exact HZ0.out.ext E5 | exact (HZ0.out.al _).ext E5
       clear E5 z0 z1 z2 z3 f0 f1 f2 f3 q0 q1 q2 q3 g0 g1 g2 g3 zz qz
       obtain ⟨zz, ⟨z0, z1, z2, z3⟩, f0, f1, f2, f3⟩ := HB5.out
       go_wp2_with fail
       exact finB (HB5.out.set _ _ _ _) rfl ((((X5.out.setCell (by simp) _).setCell (by simp) _).setCell (by simp) _).setCell (by simp) _) (fun g0 g1 g2 g3 => by simp [results, Tryz.results39, go_sem, g0, g1, g2, g3]) (fun h => ⟨by rw [HZ.out]; rfl, h⟩)
     have es : (y0 + n0 == 0) = false := by simpa using hs
     rw [if_neg hs] at HR
     clear hs
     cases bn
     · obtain rfl : nmv = ⟨#[79, 82]⟩ := HNM.out
       have HZ : Hid (T = .tf (decide (y0 > 0))) := HR.out
       have cE := fun V => rbool_any (decide (y0 > 0)) V
       obtain ⟨r0, r1, r2, r3, hq⟩ := dat4 (.tf (decide (y0 > 0)))
       rw [hq] at cE
       have HQ2 : Hid ((V.tf (decide (y0 > 0))).dat = .agg #[.int .i64 r0, .int .i64 r1, .string r2, .int .i64 r3]) := hq
       clear hq HR
       go_wp2_with fail
       refine (cE _).mono ?_
       rintro e w5 ⟨rfl, E5⟩
       have X5 : Hid (Ext W w5) := by first | exact X0.out.trans E5 | exact (X0.out.alloc _).trans E5
       have HB5 : Hid (Blk w5 W.heap.size (.int .i64 0) (.int .i64 0) (.string ⟨#[]⟩) (.int .i64 0)) := by first | exact HZ0.out.ext E5 | exact (HZ0.out.al _).ext E5
       clear E5 z0 z1 z2 z3 f0 f1 f2 f3 q0 q1 q2 q3 g0 g1 g2 g3 zz qz
       obtain ⟨zz, ⟨z0, z1, z2, z3⟩, f0, f1, f2, f3⟩ := HB5.out
       go_wp2_with fail
       exact finB (HB5.out.set _ _ _ _) rfl ((((X5.out.setCell (by simp) _).setCell (by simp) _).setCell (by simp) _).setCell (by simp) _) (fun g0 g1 g2 g3 => by simp [results, Tryz.results39, go_sem, g0, g1, g2, g3]) (fun h => ⟨by rw [HZ.out, HQ2.out], h⟩)
     · obtain rfl : nmv = ⟨#[65, 78, 68]⟩ := HNM.out
       have HZ : Hid (T = .tf (n0 == 0)) := HR.out
       have cE := fun V => rbool_any (n0 == 0) V
       obtain ⟨r0, r1, r2, r3, hq⟩ := dat4 (.tf (n0 == 0))
       rw [hq] at cE
       have HQ2 : Hid ((V.tf (n0 == 0)).dat = .agg #[.int .i64 r0, .int .i64 r1, .string r2, .int .i64 r3]) := hq
       clear hq HR
       go_wp2_with fail
       refine (cE _).mono ?_
       rintro e w5 ⟨rfl, E5⟩
       have X5 : Hid (Ext W w5) := by first | exact X0.out.trans E5 | exact (X0.out.alloc _).trans E5
       have HB5 : Hid (Blk w5 W.heap.size (.int .i64 0) (.int .i64 0) (.string ⟨#[]⟩) (.int .i64 0)) := by first | exact HZ0.out.ext E5 | exact (HZ0.out.al _).ext E5
       clear E5 z0 z1 z2 z3 f0 f1 f2 f3 q0 q1 q2 q3 g0 g1 g2 g3 zz qz
       obtain ⟨zz, ⟨z0, z1, z2, z3⟩, f0, f1, f2, f3⟩ := HB5.out
       go_wp2_with fail
       exact finB (HB5.out.set _ _ _ _) rfl ((((X5.out.setCell (by simp) _).setCell (by simp) _).setCell (by simp) _).setCell (by simp) _) (fun g0 g1 g2 g3 => by simp [results, Tryz.results39, go_sem, g0, g1, g2, g3]) (fun h => ⟨by rw [HZ.out, HQ2.out], h⟩)

open Go.RowKit
set_option maxHeartbeats 4000000

theorem byte_infoY : ∃ i, Tryz.prog.info? 5 = some i ∧ i.zero = some (.int .u8 0) ∧ i.size = 1 ∧ i.bytes = 1 := by
 have h1 : (Tryz.prog.info? 5).isSome = true := by kernel_rfl
 have h2 : (Tryz.prog.info? 5).bind (fun i => i.zero) = some (.int .u8 0) := by kernel_rfl
 have h3 : (Tryz.prog.info? 5).map (fun i => (i.size, i.bytes)) = some (1, 1) := by kernel_rfl
 cases h : Tryz.prog.info? 5 with
 | none => rw [h] at h1; cases h1
 | some i =>
   rw [h] at h2 h3
   simp at h2 h3
   exact ⟨i, rfl, h2, h3.1, h3.2⟩
theorem toText_kind (v : V) : v.toText.k = 3 ∨ v.toText.k = 4 := by
 cases v with
 | err e => right; rfl
 | _ => left; rfl
theorem ok_size (v : V) (h : v.ok) : v.s.size ≤ 300 := by
 cases v with
 | text s => exact h
 | _ => exact (by decide : (0 : Nat) ≤ 300)
theorem gotX (s : List (V × Bool)) (x : V × Bool) (y : V) (hy : texF x.1 x.2 = y) (hk : y.k = 3) : allC (got texF (s ++ [x])) = allC (got texF s) ++ y.s.data.toList := by
 subst hy
 rw [got_app, allC_app]
 congr 1
 show allC (if goes (texF x.1 x.2) then [texF x.1 x.2] else []) = _
 rw [if_pos (by simp [goes, hk])]
 simp [allC]
/-- The state of concat when s was met. -/
structure CatS (W : World) (s : List (V × Bool)) (ov : Value) (V' : World) : Prop where
 e : Ext W V'
 o : V'.ownsRow (W.heap.size + 1) 5 1 ov (allC (got texF s)).length (Lib.byteCells (allC (got texF s)))
 f : ∃ g cap, ov = .slice (some ⟨g, 0, none⟩) (allC (got texF s)).length cap
 z : Blk V' W.heap.size (.int .i64 0) (.int .i64 0) (.string ⟨#[]⟩) (.int .i64 0)
 b : bad texF s = .blank
 l : (allC (got texF s)).length ≤ 300 * s.length
theorem CatS.ext {W : World} {s : List (V × Bool)} {ov : Value} {V1 V2 : World} (h : CatS W s ov V1) (e : Ext V1 V2) : CatS W s ov V2 :=
 ⟨h.e.trans e, ownsRow_ext h.o e, h.f, h.z.ext e, h.b, h.l⟩
theorem CatS.conv {W : World} {s : List (V × Bool)} {ov : Value} {V1 : World} (h : CatS W s ov V1) : (convert 84 9 ov).run Tryz.prog V1 = .ok (.string (bs (allC (got texF s)))) V1 := by
 obtain ⟨g, cap, rfl⟩ := h.f
 exact run_convert_bytes_back V1 84 9 5 ⟨g, 0, none⟩ cap _ Tryz.underlying84 Tryz.underlying5 Tryz.underlying9 (fun j hj => h.o.cells (g := g) rfl j _ (by rw [List.getElem?_eq_getElem (by rw [Lib.byteCells_length]; exact hj)]; simp [Lib.byteCells]))
theorem cat_app {ops : Array Oper} {rest : List Oper} {o : Oper} {a : Act} {Q : Exit → Act → World → Prop} (W V1 WA : World) (s x : Operand) (ov : Value) (S : List (V × Bool)) (ts : ByteArray) (hgd : o.guard = none)
   (ho : o.op = .call { callee := .builtin .append, args := #[s, x], argTypes := #[84, 9] }) (hs : a.eval s = ov) (hx : a.eval x = .string ts)
   (h : CatS W S ov V1) (e : Ext V1 WA) (hl : S.length ≤ 1500000) (q : V × Bool) (y : V) (hy : texF q.1 q.2 = y) (hk : y.k = 3) (hn : y.s = ts) (hz : ts.size ≤ 300)
   (K : ∀ g cap W', CatS W (S ++ [q]) (.slice (some ⟨g, 0, none⟩) ((allC (got texF S)).length + ts.size) cap) W' → Below W.heap.size V1 W' → wpList Tryz.prog ops Q rest (a.put o.dst (.slice (some ⟨g, 0, none⟩) ((allC (got texF S)).length + ts.size) cap)) W') :
   wpList Tryz.prog ops Q (o :: rest) a WA := by
 obtain ⟨i, hi, hzr, h1, h2⟩ := byte_infoY
 have hL := h.l
 have hzs : W.heap.size + 1 ≤ V1.heap.size := h.z.1
 refine Lib.wpList_append_own_string WA hgd s x 84 9 ho (W.heap.size + 1) 5 i Tryz.underlying84 Tryz.underlying9 hi hzr h1 h2 ov (allC (got texF S)).length (Lib.byteCells (allC (got texF S))) hs (ownsRow_ext h.o e) ts hx (by unfold maxLen; omega) (by omega) (Nat.le_trans hzs e.size) ?_
 intro v' W' k1 k2 k3
 have hB : ∀ q, ov.ownBlock = some q → W.heap.size + 1 ≤ q := fun q hq => (h.o.lt q hq).1
 obtain ⟨g, cap, rfl⟩ : ∃ g cap, v' = .slice (some ⟨g, 0, none⟩) ((allC (got texF S)).length + ts.size) cap := by
   rcases k1.2 with ⟨h0, _⟩ | ⟨g, cap, _, hv, _⟩
   · have := (k3.1 h0).1
     obtain ⟨g, cap, hf⟩ := h.f
     rw [hf] at this
     cases this
   · exact ⟨g, cap, hv⟩
 have E2 : Ext W W' := by
   have hE := h.e.trans e
   refine ⟨k2.os.trans hE.os, k2.tape.trans hE.tape, k2.output.trans hE.output, Nat.le_trans hE.size k2.size, fun k hk => ?_⟩
   refine (k2.block k (Nat.lt_of_lt_of_le hk hE.size) (fun c => ?_)).trans (hE.block k hk)
   have := hB k c.symm
   omega
 have hA : allC (got texF (S ++ [q])) = allC (got texF S) ++ ts.data.toList := by rw [gotX S q y hy hk, hn]
 have hlen : (allC (got texF (S ++ [q]))).length = (allC (got texF S)).length + ts.size := by rw [hA, List.length_append]; rfl
 refine K g cap W' ⟨E2, ?_, ⟨g, cap, by rw [hlen]⟩, ?_, ?_, ?_⟩ (Ext.between h.e E2 (Nat.le_trans e.size k2.size))
 · rw [hlen, hA]
   have : Lib.byteCells (allC (got texF S) ++ ts.data.toList) = Lib.byteCells (allC (got texF S)) ++ Lib.strCells ts := by simp [Lib.byteCells, Lib.strCells]
   rw [this]
   exact k1
 · refine (h.z.ext e).grown k2 (fun c => ?_)
   have := hB _ c
   omega
 · rw [bad_app, h.b]
   show (if (V.blank).k = 4 then _ else if (texF q.1 q.2).k = 4 then _ else _) = _
   rw [hy, hk]
   rfl
 · rw [hlen, List.length_append]
   simp
   omega
theorem bad_more (s r : List (V × Bool)) (x : V × Bool) (y : V) (hb : bad texF s = .blank) (hy : texF x.1 x.2 = y) (hk : y.k = 4) : bad texF ((s ++ [x]) ++ r) = y := by
 have h1 : bad texF (s ++ [x]) = y := by
   rw [bad_app, hb, if_neg (by simp [V.k])]
   show (if (texF x.1 x.2).k = 4 then texF x.1 x.2 else V.blank) = y
   rw [hy, if_pos hk]
 rw [bad_app, h1, if_pos hk]
theorem seen_split {gs : List Ag} {j : Nat} {a : Ag} (h : gs[j]? = some a) {i : Nat} {r : Rw} (hr : (allL a)[i]? = some r) : ∃ R, seen gs = (seen (gs.take j) ++ ((allL a).take i).map (fun r => (r.v, a.area)) ++ [(r.v, a.area)]) ++ R := by
 refine ⟨((allL a).drop (i + 1)).map (fun r => (r.v, a.area)) ++ seen (gs.drop (j + 1)), ?_⟩
 have e1 : seen (gs.take (j + 1)) = seen (gs.take j) ++ (allL a).map (fun r => (r.v, a.area)) := by rw [seen_take h, seen1_all]
 have e2 : seen gs = seen (gs.take (j + 1)) ++ seen (gs.drop (j + 1)) := by
   conv => lhs; rw [← List.take_append_drop (j + 1) gs]
   unfold seen
   rw [List.flatMap_append]
 have e3 : (allL a).map (fun r => (r.v, a.area)) = ((allL a).take i).map (fun r => (r.v, a.area)) ++ [(r.v, a.area)] ++ ((allL a).drop (i + 1)).map (fun r => (r.v, a.area)) := by
   conv => lhs; rw [← List.take_append_drop (i + 1) (allL a), List.take_add_one, hr]
   simp
 rw [e2, e1, e3]
 simp
set_option maxRecDepth 100000 in
theorem rconcat_any (gs : List Ag) (p : Option Addr) (n c : Nat) (W : World) (hF : Fit W (.slice p n c) gs) :
   Calls Tryz.prog 40 #[.slice p n c] W fun e w' => e = .returned (fCat gs).dat ∧ Ext W w' := by
 have HF : Hid (Fit W (.slice p n c) gs) := hF
 have HN : Hid (n = gs.length ∧ n ≤ 1500000) := by
   obtain ⟨p', c', h1, _⟩ := hF.rd
   cases h1
   exact ⟨rfl, hF.l⟩
 obtain ⟨T, hT⟩ : ∃ T, fCat gs = T := ⟨_, rfl⟩
 have HTT : Hid (T = if (bad texF (seen gs)).k = 4 then bad texF (seen gs) else mkText (bs (allC (got texF (seen gs))))) := by show _ = _; rw [← hT]; rfl
 rw [hT]
 clear hF hT
 go_enter Tryz.func40, Tryz.ntmps40
 go_wp2_with fail
 go_loopw [4, 3] (fun iv ov wr => ∃ (j g nv cv : Nat), iv = .int .i64 (j : Int) ∧ ov = .slice (some ⟨g, 0, none⟩) nv cv ∧ j ≤ n ∧ CatS W (seen (gs.take j)) (.slice (some ⟨g, 0, none⟩) nv cv) wr) (fun iv _ _ => n - (intOf iv).toNat)
 case atStart =>
   refine ⟨0, _, _, _, rfl, rfl, Nat.zero_le _, ?_⟩
   refine ⟨((Ext.refl _).alloc _).alloc _, ?_, ⟨_, _, rfl⟩, blk_top (by simp) ((Ext.refl _).alloc _), rfl, by simp [seen, got, allC]⟩
   refine ⟨rfl, .inr ⟨W.heap.size + 1, 0, #[], rfl, Nat.le_refl _, ?_, Nat.le_refl _, by unfold maxLen; omega, rfl, rfl⟩⟩
   show ((W.heap.push _).push _)[W.heap.size + 1]? = _
   rw [show W.heap.size + 1 = (W.heap.push (.cells #[.int .i64 0, .int .i64 0, .string ⟨#[]⟩, .int .i64 0] 25)).size by simp, Array.getElem?_push_size]
 case round =>
   generalize wr = wo at hrel ⊢
   obtain ⟨j, gv, nv, cv, rfl, rfl, hj, hS⟩ := hrel
   have HS : Hid (CatS W (seen (gs.take j)) (.slice (some ⟨gv, 0, none⟩) nv cv) wo) := hS
   clear hS
   by_cases hlt : j < n
   · have hltI : (j : Int) < (n : Int) := by omega
     obtain ⟨b, off, a, x, y, lv, rfl, ha, hb, hbW, ⟨k0, k1, k2, k3⟩, hV⟩ := (HF.out.rd.low HS.out.e).at (i := j) (by rw [← HN.out.1]; exact hlt)
     obtain ⟨p', n', c', rfl, hn', hc'⟩ := hV.form
     have HV : Hid (RdV W.heap.size wo (.slice p' n' c') a.l ∧ gs[j]? = some a) := ⟨hV, ha⟩
     have WK : Hid (wrap64 ((j : Int) + 1) = ((j + 1 : Nat) : Int)) := wrap_1 j (by have := HN.out; omega)
     have hj1 : j + 1 ≤ n := by omega
     have CA : Hid (∀ V, Ext wo V → Calls Tryz.prog 45 #[.agg #[.bool a.area, .int .i64 x, .int .i64 y, .slice p' n' c']] V fun e w' => ∃ p' n' c', e = .returned (.slice p' n' c') ∧ (RdV W.heap.size w' (.slice p' n' c') (allL a) ∨ ((allL a).length = 1 ∧ RdV w'.heap.size w' (.slice p' n' c') (allL a))) ∧ Ext V w') := fun V e => all_any a x y p' n' c' W.heap.size V (Nat.le_trans HS.out.e.size e.size) (HV.out.1.low (Below.mono e HS.out.e.size))
     clear hV ha hn' hc' hb hlt
     go_wp2_with fail
     refine (CA.out _ (Ext.refl _)).mono ?_
     rintro e w1 ⟨p2, n2, c2, rfl, R2, E1⟩
     obtain ⟨RO, hn2⟩ := RdO.of R2
     have HR : Hid (RdO W.heap.size w1 (.slice p2 n2 c2) (allL a) 0 ∧ n2 = (allL a).length) := ⟨RO, hn2⟩
     have HT : Hid (seen (gs.take (j + 1)) = seen (gs.take j) ++ (allL a).map (fun r => (r.v, a.area))) := by show _ = _; rw [seen_take HV.out.2, seen1_all]
     have HU : Hid ((∀ r ∈ allL a, I64 r.n) ∧ (seen (gs.take j)).length + (allL a).length ≤ 1500000) := by
       refine ⟨allL_i a (HF.out.i a (List.mem_of_getElem? HV.out.2)), ?_⟩
       have h1 := seen_le HV.out.2
       have h2 := HF.out.s
       rw [allL_len]; omega
     have HS1 : Hid (CatS W (seen (gs.take j)) (.slice (some ⟨gv, 0, none⟩) nv cv) w1) := HS.out.ext E1
     clear R2 RO hn2 E1 k0 k1 k2 k3 hbW
     go_wp2_with fail
     go_loopw [6, 3] (fun iv ov w3 => ∃ (i g nv cv : Nat), iv = .int .i64 (i : Int) ∧ ov = .slice (some ⟨g, 0, none⟩) nv cv ∧ i ≤ n2 ∧ CatS W (seen (gs.take j) ++ ((allL a).take i).map (fun r => (r.v, a.area))) (.slice (some ⟨g, 0, none⟩) nv cv) w3 ∧ RdO W.heap.size w3 (.slice p2 n2 c2) (allL a) i) (fun iv _ _ => n2 - (intOf iv).toNat)
     case atStart =>
       refine ⟨0, _, _, _, rfl, rfl, Nat.zero_le _, ?_, HR.out.1⟩
       simp only [List.take_zero, List.map_nil, List.append_nil]
       exact HS1.out
     case round =>
       obtain ⟨i, gv, nv, cv, rfl, rfl, hi, hS, hO⟩ := hrel
       have H3 : Hid (CatS W (seen (gs.take j) ++ ((allL a).take i).map (fun r => (r.v, a.area))) (.slice (some ⟨gv, 0, none⟩) nv cv) wr ∧ RdO W.heap.size wr (.slice p2 n2 c2) (allL a) i) := ⟨hS, hO⟩
       clear hS hO
       by_cases hlt : i < n2
       · have hltJ : (i : Int) < (n2 : Int) := by omega
         obtain ⟨b', off', r, rfl, hr, hbW', k0, k1, k2, k3⟩ := H3.out.2.at (by rw [← HR.out.2]; exact hlt)
         have WI : Hid (wrap64 ((i : Int) + 1) = ((i + 1 : Nat) : Int)) := wrap_1 i (by have := HU.out.2; have := HR.out.2; omega)
         have hi1 : i + 1 ≤ n2 := by omega
         have HX : Hid ((allL a)[i]? = some r ∧ I64 r.n ∧ i < (allL a).length) := ⟨hr, HU.out.1 r (List.mem_of_getElem? hr), by rw [← HR.out.2]; exact hlt⟩
         obtain ⟨S, hS⟩ : ∃ S, seen (gs.take j) ++ ((allL a).take i).map (fun r => (r.v, a.area)) = S := ⟨_, rfl⟩
         have HSP : Hid (∃ R, seen gs = (S ++ [(r.v, a.area)]) ++ R) := by
           show ∃ R, _
           rw [← hS]
           exact seen_split HV.out.2 hr
         have HT2 : Hid (seen (gs.take j) ++ ((allL a).take (i + 1)).map (fun r => (r.v, a.area)) = S ++ [(r.v, a.area)]) := by
           show _ = _
           rw [List.take_add_one, hr, List.map_append, ← List.append_assoc, hS]; rfl
         have HSL : Hid (S.length ≤ 1500000) := by
           show _ ≤ _
           rw [← hS]; simp; have := HU.out.2; omega
         rw [hS] at H3
         have cT := fun V => rtotext_any r.k r.n r.s r.e V HX.out.2.1
         have hok : r.v.ok := nm_ok _ _ _ _ HX.out.2.1
         have HVV : Hid (nm r.k r.n r.s r.e = r.v) := rfl
         rw [HVV.out, dat_eq r.v.toText] at cT
         have HY : Hid (texF r.v a.area = r.v.toText ∧ (r.v.toText.k = 3 ∨ r.v.toText.k = 4) ∧ r.v.toText.s.size ≤ 300) := ⟨rfl, toText_kind _, ok_size _ (toText_ok _ hok)⟩
         clear hr hlt hS hok
         generalize r.v.toText = u at *
         obtain ⟨uk, huk⟩ : ∃ q, u.k = q := ⟨_, rfl⟩
         obtain ⟨un, hun⟩ : ∃ q, u.n = q := ⟨_, rfl⟩
         obtain ⟨us, hus⟩ : ∃ q, u.s = q := ⟨_, rfl⟩
         obtain ⟨ue, hue⟩ : ∃ q, u.e = q := ⟨_, rfl⟩
         have HUE : Hid (u.k = uk ∧ u.n = un ∧ u.s = us ∧ u.e = ue) := ⟨huk, hun, hus, hue⟩
         rw [huk, hun, hus, hue] at cT
         clear huk hun hus hue
         by_cases h4 : uk = 4
         · have e4 : (uk == 4) = true := by rw [h4]; rfl
           have HZ : Hid (T = u) := by
             obtain ⟨R, hR⟩ := HSP.out
             have hb : bad texF (seen gs) = u := by rw [hR]; exact bad_more S R _ u H3.out.1.b HY.out.1 (HUE.out.1.trans h4)
             show _ = _
             rw [HTT.out, hb, if_pos (HUE.out.1.trans h4)]
           have HD : Hid (u.dat = .agg #[.int .i64 uk, .int .i64 un, .string us, .int .i64 ue]) := by show _ = _; rw [dat_eq, HUE.out.1, HUE.out.2.1, HUE.out.2.2.1, HUE.out.2.2.2]
           clear h4
           go_wp2_with fail
           refine (cT _).mono ?_
           rintro e w4 ⟨rfl, E4⟩
           have X4 : Hid (Ext W w4) := H3.out.1.e.trans E4
           have HB4 : Hid (Blk w4 W.heap.size (.int .i64 0) (.int .i64 0) (.string ⟨#[]⟩) (.int .i64 0)) := H3.out.1.z.ext E4
           obtain ⟨zz, ⟨z0, z1, z2, z3⟩, f0, f1, f2, f3⟩ := HB4.out
           clear E4 k0 k1 k2 k3 hbW'
           go_wp2_with fail
           exact finB ((HB4.out.set _ _ _ _).al _) rfl (((((X4.out.setCell (by simp) _).setCell (by simp) _).setCell (by simp) _).setCell (by simp) _).alloc _) (fun g0 g1 g2 g3 => by simp [results, Tryz.results40, go_sem, g0, g1, g2, g3]) (fun h => ⟨by rw [HZ.out, HD.out], h⟩)
         · have e4 : (uk == 4) = false := by simpa using h4
           have HU3 : Hid (u.k = 3) := by
             rcases HY.out.2.1 with k | k
             · exact k
             · exact absurd (HUE.out.1.symm.trans k) h4
           have HSZ : Hid (us.size ≤ 300) := by show _ ≤ _; rw [← HUE.out.2.2.1]; exact HY.out.2.2
           clear h4
           go_wp2_with fail
           refine (cT _).mono ?_
           rintro e w4 ⟨rfl, E4⟩
           have X4 : Hid (Ext wr w4) := E4
           clear E4 k0 k1 k2 k3 hbW'
           go_wp2_with (at_builtin; refine cat_app W wr _ _ _ _ S us rfl rfl (by rfl) (by rfl) H3.out.1 (X4.out.alloc _) HSL.out (r.v, a.area) u HY.out.1 HU3.out HUE.out.2.2.1 HSZ.out ?_; intro g6 c6 W' N6 E6; have HN6 : Hid (CatS W (S ++ [(r.v, a.area)]) (.slice (some ⟨g6, 0, none⟩) ((allC (got texF S)).length + us.size) c6) W' ∧ Below W.heap.size wr W') := ⟨N6, E6⟩; clear N6 E6; have wi := WI.out)
           go_roundw
           case rel => exact ⟨i + 1, _, _, _, by go_num, rfl, hi1, by rw [HT2.out]; exact HN6.out.1, H3.out.2.next HX.out.2.2 HN6.out.2⟩
           case measure => exact meas n2 i hi1 wi
       · have hltJ : ¬ (i : Int) < (n2 : Int) := by omega
         have H2 : Hid (CatS W (seen (gs.take (j + 1))) (.slice (some ⟨gv, 0, none⟩) nv cv) wr) := by
           have h1 := H3.out.1
           have h2 := HR.out.2
           rw [show (allL a).take i = allL a from List.take_of_length_le (by omega)] at h1
           show CatS _ _ _ _
           rw [HT.out]; exact h1
         clear hlt
         have wk := WK.out
         go_wp2_with fail
         go_roundw
         case rel => exact ⟨j + 1, _, _, _, by go_num, rfl, hj1, H2.out⟩
         case measure => exact meas n j hj1 wk
   · have hltI : ¬ (j : Int) < (n : Int) := by omega
     have H2 : Hid (CatS W (seen gs) (.slice (some ⟨gv, 0, none⟩) nv cv) wo) := by
       have h1 := HS.out
       have h2 := HN.out.1
       rw [show gs.take j = gs from List.take_of_length_le (by omega)] at h1
       exact h1
     have CV : Hid (∀ v, v = Value.slice (some ⟨gv, 0, none⟩) nv cv → (convert 84 9 v).run Tryz.prog wo = .ok (.string (bs (allC (got texF (seen gs))))) wo) := by rintro v rfl; exact H2.out.conv
     have HZ : Hid (T = mkText (bs (allC (got texF (seen gs))))) := by show _ = _; rw [HTT.out, H2.out.b, if_neg (by decide)]
     have cX := fun V => rtext_any (bs (allC (got texF (seen gs)))) V
     obtain ⟨q0, q1, q2, q3, hq⟩ := dat4 (mkText (bs (allC (got texF (seen gs)))))
     rw [hq] at cX
     have HQ2 : Hid ((mkText (bs (allC (got texF (seen gs))))).dat = .agg #[.int .i64 q0, .int .i64 q1, .string q2, .int .i64 q3]) := hq
     generalize bs (allC (got texF (seen gs))) = tx at *
     clear hlt hj hq
     go_wp2_with fail
     rw [CV.out _ rfl]
     go_wp2_with fail
     refine (cX _).mono ?_
     rintro e w5 ⟨rfl, E5⟩
     have X5 : Hid (Ext W w5) := by first | exact H2.out.e.trans E5 | exact (H2.out.e.alloc _).trans E5
     have HB5 : Hid (Blk w5 W.heap.size (.int .i64 0) (.int .i64 0) (.string ⟨#[]⟩) (.int .i64 0)) := by first | exact H2.out.z.ext E5 | exact (H2.out.z.al _).ext E5
     clear E5
     obtain ⟨zz, ⟨z0, z1, z2, z3⟩, f0, f1, f2, f3⟩ := HB5.out
     go_wp2_with fail
     exact finB (HB5.out.set _ _ _ _) rfl ((((X5.out.setCell (by simp) _).setCell (by simp) _).setCell (by simp) _).setCell (by simp) _) (fun g0 g1 g2 g3 => by simp [results, Tryz.results40, go_sem, g0, g1, g2, g3]) (fun h => ⟨by rw [HZ.out, HQ2.out], h⟩)
end Go.Proofs.YtalejeknigbhjaaGreatDoor
