/-
 The laws of layer 13: errors among values; how many values there are.
 The laws of layer 13: a list of the call's own in which two values change places.
-/
import Derived.Test.YtiahgalhemljnaaDoorQ16
namespace Go.Proofs.YtiahgalhemljnaaDoor
open Go.RowKit
set_option maxHeartbeats 1000000

def badR (r : Rw) : Bool := r.v.k == 4
theorem badR_cases (r : Rw) : (r.k = 4 ∧ badR r = true) ∨ (r.k = 2 ∧ r.n = -9223372036854775808 ∧ badR r = true) ∨ (r.k = 2 ∧ r.n ≠ -9223372036854775808 ∧ badR r = false) ∨
   (r.k = 3 ∧ 300 < r.s.size ∧ badR r = true) ∨ (r.k = 3 ∧ r.s.size ≤ 300 ∧ badR r = false) ∨ (r.k ≠ 4 ∧ r.k ≠ 2 ∧ r.k ≠ 3 ∧ badR r = false) := by
 unfold badR Rw.v nm
 by_cases h4 : r.k = 4
 · left; refine ⟨h4, ?_⟩; rw [if_neg (by omega), if_neg (by omega), if_neg (by omega), if_pos h4]; rfl
 by_cases h2 : r.k = 2
 · rw [if_neg (by omega), if_pos h2]
   by_cases hn : r.n = -9223372036854775808
   · right; left; refine ⟨h2, hn, ?_⟩; rw [hn]; rfl
   · right; right; left; refine ⟨h2, hn, ?_⟩
     rw [mkNum_is (by unfold canB; simpa using hn)]; rfl
 by_cases h3 : r.k = 3
 · rw [if_neg (by omega), if_neg (by omega), if_pos h3]
   by_cases hs : r.s.size ≤ 300
   · right; right; right; right; left; refine ⟨h3, hs, ?_⟩; rw [mkText_is hs]; rfl
   · right; right; right; left; refine ⟨h3, by omega, ?_⟩; unfold mkText; rw [if_neg hs]; rfl
 · right; right; right; right; right; refine ⟨h4, h2, h3, ?_⟩
   rw [if_neg h2, if_neg h3, if_neg h4]
   split <;> rfl
theorem any_step {l : List Rw} {j : Nat} {r : Rw} (h : l[j]? = some r) (hb : badR r = false) (ha : (l.take j).any badR = false) : (l.take (j + 1)).any badR = false := by
 rw [List.take_add_one, h]
 simp only [Option.toList, List.any_append, ha, List.any_cons, hb, List.any_nil, Bool.or_false]
set_option maxRecDepth 100000 in
theorem errors_any (l : List Rw) (p : Option Addr) (n c : Nat) (W : World) (h : RdV W.heap.size W (.slice p n c) l) (hl : l.length ≤ 100000) :
   Calls Tryd.prog 18 #[.slice p n c] W fun e w' => e = .returned (.bool (l.any badR)) ∧ w' = W := by
 have HR : Hid (RdV W.heap.size W (.slice p n c) l) := h
 have HN : Hid (n = l.length ∧ n ≤ 100000) := ⟨h.len, by have := h.len; omega⟩
 clear h hl
 go_enter Tryd.func18, Tryd.ntmps18
 go_wp2_with fail
 go_loopw [3] (fun iv wr => ∃ j : Nat, iv = .int .i64 (j : Int) ∧ j ≤ n ∧ (l.take j).any badR = false ∧ wr = W) (fun iv _ => n - (intOf iv).toNat)
 case atStart => exact ⟨0, rfl, Nat.zero_le _, rfl, rfl⟩
 case round =>
   obtain ⟨j, rfl, hj, ha, rfl⟩ := hrel
   have HA : Hid ((l.take j).any badR = false) := ha
   clear ha
   by_cases hlt : j < n
   · have hltI : (j : Int) < (n : Int) := by omega
     obtain ⟨b, off, r, rfl, hr, hb, hbW, k0, k1, k2, k3⟩ := HR.out.at (i := j) (by rw [← HN.out.1]; exact hlt)
     have WK : Hid (wrap64 ((j : Int) + 1) = ((j + 1 : Nat) : Int)) := wrap_1 j (by have := HN.out.2; omega)
     have HX : Hid (l[j]? = some r) := hr
     have hj1 : j + 1 ≤ n := by omega
     have HB := badR_cases r
     have hsz : (r.s.size : Int) ≥ 0 := by omega
     clear hr hlt hb hj
     obtain ⟨rk, hrk⟩ : ∃ q, r.k = q := ⟨_, rfl⟩
     obtain ⟨rn, hrn⟩ : ∃ q, r.n = q := ⟨_, rfl⟩
     obtain ⟨rs, hrs⟩ : ∃ q, r.s = q := ⟨_, rfl⟩
     rw [hrk] at k0 HB
     rw [hrn] at k1 HB
     rw [hrs] at k2 HB hsz
     clear hrk hrn hrs
     rcases HB with ⟨a1, hbr⟩ | ⟨a1, a2, hbr⟩ | ⟨a1, a2, hbr⟩ | ⟨a1, a2, hbr⟩ | ⟨a1, a2, hbr⟩ | ⟨a1, a2, a3, hbr⟩
     · have HT : Hid (l.any badR = true) := by
         show _ = _
         rw [List.any_eq_true]
         exact ⟨r, List.mem_of_getElem? HX.out, hbr⟩
       have e4 : (rk == 4) = true := by rw [a1]; rfl
       have e2 : (rk == 2) = false := by rw [a1]; rfl
       have e3 : (rk == 3) = false := by rw [a1]; rfl
       clear a1
       clear hbr
       go_wp2_with fail
       go_ret
       exact ⟨ret_bool HT.out.symm, rfl⟩
     · have HT : Hid (l.any badR = true) := by
         show _ = _
         rw [List.any_eq_true]
         exact ⟨r, List.mem_of_getElem? HX.out, hbr⟩
       have e4 : (rk == 4) = false := by rw [a1]; rfl
       have e2 : (rk == 2) = true := by rw [a1]; rfl
       have e3 : (rk == 3) = false := by rw [a1]; rfl
       subst a2
       clear a1
       clear hbr
       go_wp2_with fail
       go_ret
       exact ⟨ret_bool HT.out.symm, rfl⟩
     · have HT : Hid ((l.take (j + 1)).any badR = false) := any_step HX.out hbr HA.out
       have e4 : (rk == 4) = false := by rw [a1]; rfl
       have e2 : (rk == 2) = true := by rw [a1]; rfl
       have e3 : (rk == 3) = false := by rw [a1]; rfl
       have en : (rn == -9223372036854775808) = false := by simpa using a2
       clear a1 a2
       clear hbr
       have wk := WK.out
       go_wp2_with fail
       go_roundw
       case rel => exact ⟨j + 1, by go_num, hj1, HT.out, by trivial⟩
       case measure => exact meas n j hj1 wk
     · have HT : Hid (l.any badR = true) := by
         show _ = _
         rw [List.any_eq_true]
         exact ⟨r, List.mem_of_getElem? HX.out, hbr⟩
       have e4 : (rk == 4) = false := by rw [a1]; rfl
       have e2 : (rk == 2) = false := by rw [a1]; rfl
       have e3 : (rk == 3) = true := by rw [a1]; rfl
       have es : decide ((rs.size : Int) > 300) = true := by simp; omega
       have es' : (rs.size : Int) > 300 := by omega
       clear a1 a2
       clear hbr
       go_wp2_with fail
       go_ret
       exact ⟨ret_bool HT.out.symm, rfl⟩
     · have HT : Hid ((l.take (j + 1)).any badR = false) := any_step HX.out hbr HA.out
       have e4 : (rk == 4) = false := by rw [a1]; rfl
       have e2 : (rk == 2) = false := by rw [a1]; rfl
       have e3 : (rk == 3) = true := by rw [a1]; rfl
       have es : decide ((rs.size : Int) > 300) = false := by simp; omega
       have es' : ¬ (rs.size : Int) > 300 := by omega
       clear a1 a2
       clear hbr
       have wk := WK.out
       go_wp2_with fail
       go_roundw
       case rel => exact ⟨j + 1, by go_num, hj1, HT.out, by trivial⟩
       case measure => exact meas n j hj1 wk
     · have HT : Hid ((l.take (j + 1)).any badR = false) := any_step HX.out hbr HA.out
       have e4 : (rk == 4) = false := by simpa using a1
       have e2 : (rk == 2) = false := by simpa using a2
       have e3 : (rk == 3) = false := by simpa using a3
       clear a1 a2 a3
       clear hbr
       have wk := WK.out
       go_wp2_with fail
       go_roundw
       case rel => exact ⟨j + 1, by go_num, hj1, HT.out, by trivial⟩
       case measure => exact meas n j hj1 wk
   · have hltI : ¬ (j : Int) < (n : Int) := by omega
     have HT : Hid (l.any badR = false) := by
       have h1 := HA.out
       have h2 := HN.out.1
       rw [show l.take j = l from List.take_of_length_le (by omega)] at h1
       exact h1
     clear hlt hj
     go_wp2_with fail
     go_ret
     exact ⟨ret_bool HT.out.symm, rfl⟩

open Go.RowKit
set_option maxHeartbeats 1000000

/-- Block g holds the values l. -/
structure Lst (W : World) (g : Nat) (l : List Rw) : Prop where
 z : g < W.heap.size
 c : ∀ i r, l[i]? = some r → W.cell? ⟨g, i * 4, none⟩ = some (.int .i64 r.k) ∧ W.cell? ⟨g, i * 4 + 1, none⟩ = some (.int .i64 r.n) ∧ W.cell? ⟨g, i * 4 + 2, none⟩ = some (.string r.s) ∧ W.cell? ⟨g, i * 4 + 3, none⟩ = some (.int .i64 r.e)
 f : ∀ o, W.frozen? ⟨g, o, none⟩ = false
def putV (W : World) (g i : Nat) (r : Rw) : World := (((W.setCell ⟨g, i * 4, none⟩ (.int .i64 r.k)).setCell ⟨g, i * 4 + 1, none⟩ (.int .i64 r.n)).setCell ⟨g, i * 4 + 2, none⟩ (.string r.s)).setCell ⟨g, i * 4 + 3, none⟩ (.int .i64 r.e)
theorem Lst.ext {W W' : World} {g : Nat} {l : List Rw} (h : Lst W g l) (e : Ext W W') : Lst W' g l := by
 have k := fun o => e.cell.1 g o h.z
 refine ⟨Nat.lt_of_lt_of_le h.z e.size, fun i r hr => ?_, fun o => (e.cell.2 g o h.z).trans (h.f o)⟩
 obtain ⟨k0, k1, k2, k3⟩ := h.c i r hr
 exact ⟨(k _).trans k0, (k _).trans k1, (k _).trans k2, (k _).trans k3⟩
theorem Lst.put {W : World} {g i : Nat} {l : List Rw} (h : Lst W g l) (hi : i < l.length) (r : Rw) : Lst (putV W g i r) g (l.set i r) := by
 obtain ⟨o0, o1, o2, o3⟩ := h.c i _ (List.getElem?_eq_getElem hi)
 refine ⟨by simpa [putV, World.setCell] using h.z, fun j s hs => ?_, fun o => by unfold putV; simp [go_sem]; exact h.f o⟩
 rw [List.getElem?_set] at hs
 by_cases hij : i = j
 · subst hij
   rw [if_pos rfl, if_pos hi] at hs
   cases hs
   have e0 := World.cell?_setCell_same W ⟨g, i * 4, none⟩ (.int .i64 r.k) (by rw [o0])
   have j1 : (W.setCell ⟨g, i * 4, none⟩ (.int .i64 r.k)).cell? ⟨g, i * 4 + 1, none⟩ = some (.int .i64 l[i].n) := by rw [World.cell?_setCell_other _ _ _ _ (by simp)]; exact o1
   have e1 := World.cell?_setCell_same _ ⟨g, i * 4 + 1, none⟩ (.int .i64 r.n) (by rw [j1])
   have j2 : ((W.setCell ⟨g, i * 4, none⟩ (.int .i64 r.k)).setCell ⟨g, i * 4 + 1, none⟩ (.int .i64 r.n)).cell? ⟨g, i * 4 + 2, none⟩ = some (.string l[i].s) := by rw [World.cell?_setCell_other _ _ _ _ (by simp), World.cell?_setCell_other _ _ _ _ (by simp)]; exact o2
   have e2 := World.cell?_setCell_same _ ⟨g, i * 4 + 2, none⟩ (.string r.s) (by rw [j2])
   have j3 : (((W.setCell ⟨g, i * 4, none⟩ (.int .i64 r.k)).setCell ⟨g, i * 4 + 1, none⟩ (.int .i64 r.n)).setCell ⟨g, i * 4 + 2, none⟩ (.string r.s)).cell? ⟨g, i * 4 + 3, none⟩ = some (.int .i64 l[i].e) := by rw [World.cell?_setCell_other _ _ _ _ (by simp), World.cell?_setCell_other _ _ _ _ (by simp), World.cell?_setCell_other _ _ _ _ (by simp)]; exact o3
   have e3 := World.cell?_setCell_same _ ⟨g, i * 4 + 3, none⟩ (.int .i64 r.e) (by rw [j3])
   refine ⟨?_, ?_, ?_, e3⟩
   · unfold putV; rw [World.cell?_setCell_other _ _ _ _ (by simp), World.cell?_setCell_other _ _ _ _ (by simp), World.cell?_setCell_other _ _ _ _ (by simp)]; exact e0
   · unfold putV; rw [World.cell?_setCell_other _ _ _ _ (by simp), World.cell?_setCell_other _ _ _ _ (by simp)]; exact e1
   · unfold putV; rw [World.cell?_setCell_other _ _ _ _ (by simp)]; exact e2
 · rw [if_neg hij] at hs
   obtain ⟨k0, k1, k2, k3⟩ := h.c j s hs
   unfold putV
   refine ⟨?_, ?_, ?_, ?_⟩
   all_goals
     iterate 4 rw [World.cell?_setCell_other _ _ _ _ (by first | (simp; done) | (simp; omega))]
     assumption
theorem own_lst {W : World} {base : Nat} {l : List Rw} {g cap n : Nat} (h : W.ownsRow base 26 4 (.slice (some ⟨g, 0, none⟩) n cap) l.length (l.flatMap cV)) : Lst W g l := by
 rcases h.2 with ⟨h1, h0⟩ | ⟨g', cap', cur, h1, h2, h3, h4, h5⟩
 · cases h1
 · cases h1
   have hg : g < W.heap.size := (Array.getElem?_eq_some_iff.1 h3).1
   refine ⟨hg, fun i r hr => ?_, fun o => Lib.frozen_of_heap h3 o⟩
   have k := fun j (hj : j < 4) u (hu : (cV r)[j]? = some u) => h.cells (g := g) rfl (i * 4 + j) u (by rw [fm_at cV 4 cV_len l i r j hr hj]; exact hu)
   simp only [Addr.add_lit, Nat.zero_add] at k
   exact ⟨k 0 (by decide) _ rfl, k 1 (by decide) _ rfl, k 2 (by decide) _ rfl, k 3 (by decide) _ rfl⟩
theorem Lst.rd {W : World} {g cap n : Nat} {l : List Rw} (h : Lst W g l) (hn : n = l.length) (hc : n ≤ cap) : RdV W.heap.size W (.slice (some ⟨g, 0, none⟩) n cap) l := by
 subst hn
 exact ⟨_, cap, rfl, hc, .inr ⟨g, 0, rfl, h.z, h.z, fun i r hr => by simpa using h.c i r hr⟩⟩
theorem good_of {l : List Rw} (h : l.any badR = false) : Good l := by
 intro r hr hk
 have : l.any badR = true := List.any_eq_true.2 ⟨r, hr, by unfold badR; rw [hk]; rfl⟩
 rw [h] at this; cases this
end Go.Proofs.YtiahgalhemljnaaDoor
