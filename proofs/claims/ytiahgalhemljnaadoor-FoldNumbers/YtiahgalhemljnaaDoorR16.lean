/-
 The document's functions of many values: told, total.
 The document's functions of many values: Call.
 The laws of layer 13: fits, own.
 Arguments: how long lists can be: by the form's own reach.
-/
import Derived.Test.YtiahgalhemljnaaDoorR15
import Derived.Deep.RegionWith
import Derived.Test.YtiahgalhemljnaaDoorR14
import Derived.SizedLaws
namespace Go.Proofs.YtiahgalhemljnaaDoor
open Go.RowKit
set_option maxHeartbeats 1000000

/-- The slice v holds the numbers of l. -/
def RdI (W : World) (v : Value) (l : List V) : Prop := ∃ base, W.ownsRow base 2 1 v l.length (l.flatMap cI)
theorem RdI.ext {W W' : World} {v : Value} {l : List V} (h : RdI W v l) (e : Ext W W') : RdI W' v l := by
 obtain ⟨b, h⟩ := h
 exact ⟨b, ownsRow_ext h e⟩
theorem RdI.form {W : World} {v : Value} {l : List V} (h : RdI W v l) : ∃ p c, v = .slice p l.length c := by
 obtain ⟨b, h⟩ := h
 obtain ⟨p, c, h, _⟩ := own_form h
 exact ⟨p, c, h⟩
theorem RdI.at {W : World} {p : Option Addr} {n c : Nat} {l : List V} (h : RdI W (.slice p n c) l) {i : Nat} (hi : i < l.length) : ∃ g v, p = some ⟨g, 0, none⟩ ∧ l[i]? = some v ∧ g < W.heap.size ∧ W.cell? ⟨g, i, none⟩ = some (.int .i64 v.n) := by
 obtain ⟨b, h⟩ := h
 rcases h.2 with ⟨_, h0⟩ | ⟨g, cap, cur, h1, h2, h3, h4⟩
 · omega
 · cases h1
   refine ⟨g, l[i], rfl, List.getElem?_eq_getElem hi, (Array.getElem?_eq_some_iff.1 h3).1, ?_⟩
   have := h.cells (g := g) rfl (i * 1 + 0) (.int .i64 l[i].n) (by rw [fm_at cI 1 cI_len l i _ 0 (List.getElem?_eq_getElem hi) (by decide)]; rfl)
   rw [Addr.add_lit] at this
   simpa using this
set_option maxRecDepth 100000 in
theorem rtold13_any (n : Int) (b : Bool) (W : World) : Calls Tryd.prog 31 #[.int .i64 n, .bool b] W fun e w' => e = .returned (toldR b n).dat ∧ Ext W w' := by
 have c1 := fun W => rnum_any n W
 have c2 := fun W => rerr_any 4 W
 rw [mkErr_is ⟨by decide, by decide⟩] at c2
 cases b with
 | false =>
   have H : Hid (toldR false n = .err 4) := rfl
   simp only [V.dat] at c2
   clear c1
   go_enter Tryd.func31, Tryd.ntmps31
   go_wp2_with fail
   refine (c2 _).mono ?_
   rintro e w1 ⟨rfl, E1⟩
   obtain ⟨z, ⟨k0, k1, k2, k3⟩, f0, f1, f2, f3⟩ := blk_top (b := W.heap.size) (by simp) E1
   go_wp2_with fail
   exact fin4 k0 k1 k2 k3 rfl (by simp) (((Ext.refl _).alloc _).trans E1) (fun W g0 g1 g2 g3 => by simp [results, Tryd.results31, go_sem, g0, g1, g2, g3]) (fun W h => ⟨by rw [H.out]; rfl, h⟩)
 | true =>
   have H : Hid (toldR true n = mkNum n) := rfl
   obtain ⟨q0, q1, q2, q3, hq⟩ := dat4 (mkNum n)
   rw [hq] at c1
   have HQ : Hid ((mkNum n).dat = .agg #[.int .i64 q0, .int .i64 q1, .string q2, .int .i64 q3]) := hq
   clear c2 hq
   go_enter Tryd.func31, Tryd.ntmps31
   go_wp2_with fail
   refine (c1 _).mono ?_
   rintro e w1 ⟨rfl, E1⟩
   obtain ⟨z, ⟨k0, k1, k2, k3⟩, f0, f1, f2, f3⟩ := blk_top (b := W.heap.size) (by simp) E1
   go_wp2_with fail
   exact fin4 k0 k1 k2 k3 rfl (by simp) (((Ext.refl _).alloc _).trans E1) (fun W g0 g1 g2 g3 => by simp [results, Tryd.results31, go_sem, g0, g1, g2, g3]) (fun W h => ⟨by rw [H.out, HQ.out], h⟩)
/-- A sum in block b. -/
def Ac (W : World) (b : Nat) (x : Int) : Prop := b < W.heap.size ∧ (W.cell? ⟨b, 0, none⟩ = some (.int .i64 (hiOf x)) ∧ W.cell? ⟨b, 1, none⟩ = some (.int .u64 (loOf x))) ∧ W.frozen? ⟨b, 0, none⟩ = false ∧ W.frozen? ⟨b, 1, none⟩ = false
theorem Ac.ext {W W' : World} {b : Nat} {x : Int} (h : Ac W b x) (e : Ext W W') : Ac W' b x :=
 ⟨Nat.lt_of_lt_of_le h.1 e.size, ⟨(e.cell.1 b 0 h.1).trans h.2.1.1, (e.cell.1 b 1 h.1).trans h.2.1.2⟩, (e.cell.2 b 0 h.1).trans h.2.2.1, (e.cell.2 b 1 h.1).trans h.2.2.2⟩
theorem Ac.set {W : World} {b : Nat} {x : Int} (h : Ac W b x) (y : Int) : Ac ((W.setCell ⟨b, 0, none⟩ (.int .i64 (hiOf y))).setCell ⟨b, 1, none⟩ (.int .u64 (loOf y))) b y := by
 obtain ⟨z, ⟨k0, k1⟩, f0, f1⟩ := h
 have e0 := World.cell?_setCell_same W ⟨b, 0, none⟩ (.int .i64 (hiOf y)) (by rw [k0])
 have j1 : (W.setCell ⟨b, 0, none⟩ (.int .i64 (hiOf y))).cell? ⟨b, 1, none⟩ = some (.int .u64 (loOf x)) := by rw [World.cell?_setCell_other _ _ _ _ (by simp)]; exact k1
 have e1 := World.cell?_setCell_same _ ⟨b, 1, none⟩ (.int .u64 (loOf y)) (by rw [j1])
 exact ⟨by simpa [World.setCell] using z, ⟨by rw [World.cell?_setCell_other _ _ _ _ (by simp)]; exact e0, e1⟩, by simpa [go_sem] using f0, by simpa [go_sem] using f1⟩
theorem Ac.far {W : World} {b c o : Nat} {x : Int} {u : Value} (h : Ac W b x) (hc : c ≠ b) : Ac (W.setCell ⟨c, o, none⟩ u) b x := by
 obtain ⟨z, ⟨k0, k1⟩, f0, f1⟩ := h
 exact ⟨by simpa [World.setCell] using z, ⟨by rw [World.cell?_setCell_far _ _ _ _ hc]; exact k0, by rw [World.cell?_setCell_far _ _ _ _ hc]; exact k1⟩, by simpa [go_sem] using f0, by simpa [go_sem] using f1⟩
theorem ac_top {w w1 : World} {x : Int} {T : TypeId} {b : Nat} (hb : b = w.heap.size) (E : Ext (w.alloc (.cells #[.int .i64 (hiOf x), .int .u64 (loOf x)] T)) w1) : Ac w1 b x := by
 subst hb
 refine Ac.ext ?_ E
 exact ⟨by simp, by simp [go_sem], by simp [go_sem], by simp [go_sem]⟩
theorem sum_take {l : List V} {j : Nat} {v : V} (h : l[j]? = some v) : sumN (l.take (j + 1)) = sumN (l.take j) + v.n := by
 rw [List.take_add_one, h]
 show sumN (l.take j ++ [v]) = _
 rw [sumN_app]; simp [sumN]
set_option maxRecDepth 100000 in
theorem rtotal_any (l : List V) (hl : l.length ≤ 15000) (hi : ∀ v ∈ l, I64 v.n) (p : Option Addr) (n c : Nat) (W : World) (h : RdI W (.slice p n c) l) :
   Calls Tryd.prog 30 #[.slice p n c] W fun e w' => e = .returned (.agg #[.int .i64 (hiOf (sumN l)), .int .u64 (loOf (sumN l))]) ∧ Ext W w' := by
 have HR : Hid (RdI W (.slice p n c) l) := h
 have HN : Hid (n = l.length ∧ n ≤ 15000 ∧ ∀ v ∈ l, I64 v.n) := by
   obtain ⟨p', c', q⟩ := h.form
   cases q
   exact ⟨rfl, hl, hi⟩
 clear h hl hi
 go_enter Tryd.func30, Tryd.ntmps30
 go_wp2_with fail
 go_loopw [4] (fun iv wr => ∃ j : Nat, iv = .int .i64 (j : Int) ∧ j ≤ n ∧ Ac wr (W.heap.size + 1) (sumN (l.take j)) ∧ Ac wr W.heap.size 0 ∧ Ext W wr) (fun iv _ => n - (intOf iv).toNat)
 case atStart => exact ⟨0, rfl, Nat.zero_le _, ac_top (x := 0) (by simp) (Ext.refl _), ac_top (x := 0) rfl ((Ext.refl _).alloc _), ((Ext.refl _).alloc _).alloc _⟩
 case round =>
   obtain ⟨j, rfl, hj, hA, hZ, hE⟩ := hrel
   have HO : Hid (Ac wr (W.heap.size + 1) (sumN (l.take j)) ∧ Ac wr W.heap.size 0 ∧ Ext W wr) := ⟨hA, hZ, hE⟩
   clear hA hZ hE
   by_cases hlt : j < n
   · have hltI : (j : Int) < (n : Int) := by omega
     obtain ⟨g, v, rfl, hv, hg, k0⟩ := (HR.out.ext HO.out.2.2).at (i := j) (by rw [← HN.out.1]; exact hlt)
     have WK : Hid (wrap64 ((j : Int) + 1) = ((j + 1 : Nat) : Int)) := wrap_1 j (by have := HN.out; omega)
     have hj1 : j + 1 ≤ n := by omega
     have HT : Hid (sumN (l.take (j + 1)) = sumN (l.take j) + v.n) := sum_take hv
     have cP := fun V => rplus_acc (sumN (l.take j)) v.n (HN.out.2.2 v (List.mem_of_getElem? hv)) V
     obtain ⟨z, ⟨s0, s1⟩, f0, f1⟩ := HO.out.1
     obtain ⟨vn, hvn⟩ : ∃ q, v.n = q := ⟨_, rfl⟩
     obtain ⟨x0, hx0⟩ : ∃ q, sumN (l.take j) = q := ⟨_, rfl⟩
     rw [hvn, hx0] at cP HT
     rw [hvn] at k0
     rw [hx0] at s0 s1 HO
     obtain ⟨a0, ha0⟩ : ∃ q, hiOf x0 = q := ⟨_, rfl⟩
     obtain ⟨a1, ha1⟩ : ∃ q, loOf x0 = q := ⟨_, rfl⟩
     have HS : Hid (∀ V, Ac V (W.heap.size + 1) x0 → Ac ((V.setCell ⟨W.heap.size + 1, 0, none⟩ (.int .i64 (hiOf (x0 + vn)))).setCell ⟨W.heap.size + 1, 1, none⟩ (.int .u64 (loOf (x0 + vn)))) (W.heap.size + 1) (x0 + vn)) := fun V h => h.set _
     generalize hiOf (x0 + vn) = b0 at *
     generalize loOf (x0 + vn) = b1 at *
     rw [ha0, ha1] at cP
     rw [ha0] at s0
     rw [ha1] at s1
     clear hlt hj hv hvn hx0 ha0 ha1
     go_upto_region 5 with fail
     go_region_with (go_at_call 59; refine Calls.mono (cP _) ?_; rintro e y1 ⟨rfl, E1⟩; have X1 : Ext wr y1 := Ext.trans (by with_reducible repeat (first | assumption | exact Ext.refl _ | apply Ext.drew | apply Ext.drewN)) E1; have HA1 : Hid (Ac y1 (W.heap.size + 1) x0 ∧ Ac y1 W.heap.size 0 ∧ Ext W y1) := ⟨HO.out.1.ext X1, HO.out.2.1.ext X1, HO.out.2.2.trans X1⟩; obtain ⟨z1, ⟨t0, t1⟩, h0, h1⟩ := HA1.out.1; clear E1 X1)
     all_goals
       have wk := WK.out
       go_wp2_with fail
       go_roundw
       case rel =>
         refine ⟨j + 1, by go_num, hj1, ?_, ?_, ?_⟩
         · rw [HT.out]; exact HS.out _ HA1.out.1
         · exact (HA1.out.2.1.far (by omega)).far (by omega)
         · exact (HA1.out.2.2.setCell (by simp) _).setCell (by simp) _
       case measure => exact meas n j hj1 wk
   · have hltI : ¬ (j : Int) < (n : Int) := by omega
     have HT : Hid (sumN (l.take j) = sumN l) := by
       show _ = _
       rw [show l.take j = l from List.take_of_length_le (by have := HN.out.1; omega)]
     rw [HT.out] at HO
     obtain ⟨z, ⟨s0, s1⟩, f0, f1⟩ := HO.out.1
     obtain ⟨z', ⟨s0', s1'⟩, f0', f1'⟩ := HO.out.2.1
     have HS : Hid (Ac ((wr.setCell ⟨W.heap.size, 0, none⟩ (.int .i64 (hiOf (sumN l)))).setCell ⟨W.heap.size, 1, none⟩ (.int .u64 (loOf (sumN l)))) W.heap.size (sumN l)) := HO.out.2.1.set _
     obtain ⟨a0, ha0⟩ : ∃ q, hiOf (sumN l) = q := ⟨_, rfl⟩
     obtain ⟨a1, ha1⟩ : ∃ q, loOf (sumN l) = q := ⟨_, rfl⟩
     have HQ : Hid (hiOf (sumN l) = a0 ∧ loOf (sumN l) = a1) := ⟨ha0, ha1⟩
     have HC := HS.out.2.1
     rw [ha0, ha1] at HC
     rw [ha0] at s0
     rw [ha1] at s1
     have HCC : Hid (_ ∧ _) := HC
     clear hlt hj ha0 ha1 HC HS
     go_wp2_with fail
     have c0 := HCC.out.1
     have c1 := HCC.out.2
     refine bodyPost_ret (v := .agg #[.int .i64 a0, .int .u64 a1]) (by simp [results, Tryd.results30, go_sem, c0, c1]) rfl ⟨by rw [HQ.out.1, HQ.out.2], (HO.out.2.2.setCell (by simp) _).setCell (by simp) _⟩
/-! ### The least and the greatest -/
theorem best_take (q : Int → Int → Bool) {l : List V} {j : Nat} {v : V} (h : l[j]? = some v) (hj : j < l.length) : bestN q (l.take (j + 1)) = if j = 0 then v.n else if q v.n (bestN q (l.take j)) then v.n else bestN q (l.take j) := by
 rw [List.take_add_one, h]
 show bestN q (l.take j ++ [v]) = _
 rw [bestN_app]
 have : (l.take j).length = j := by simp; omega
 rw [this]

open Go.RowKit
set_option maxHeartbeats 1000000

set_option maxRecDepth 100000 in
theorem rcall_count (gs : List Ag) (W : World) (p : Option Addr) (n c : Nat) (hF : Fit W (.slice p n c) gs) :
   Calls Tryd.prog 11 #[.string ⟨#[67, 79, 85, 78, 84]⟩, .slice p n c] W fun e w' => e = .returned (fCount gs).dat ∧ Ext W w' := by
 have CT : Hid (∀ V, Ext W V → Calls Tryd.prog 25 #[.slice p n c] V fun e w' => ∃ ov, e = .returned (.tuple #[ov, (bad numF (seen gs)).dat]) ∧ w'.ownsRow V.heap.size 2 1 ov (got numF (seen gs)).length ((got numF (seen gs)).flatMap cI) ∧ Ext V w') := fun V e => numbers_any13 gs p n c V (hF.ext e)
 have hm := hF.num
 have hAll : ∀ v ∈ got numF (seen gs), I64 v.n := fun v hv => by
   obtain ⟨m, rfl, h1, _⟩ := got_nums _ (seen_ok gs hF.i) v hv
   exact h1
 have hsum := hF.sum
 obtain ⟨L, hL⟩ : ∃ L, got numF (seen gs) = L := ⟨_, rfl⟩
 have HB : Hid ((bad numF (seen gs)).dat = .agg #[.int .i64 (bad numF (seen gs)).k, .int .i64 (bad numF (seen gs)).n, .string (bad numF (seen gs)).s, .int .i64 (bad numF (seen gs)).e]) := dat_eq _
 rw [dat_eq (bad numF (seen gs)), hL] at CT
 rw [hL] at hm hAll hsum
 obtain ⟨R, hR⟩ : ∃ R, fCount gs = R := ⟨_, rfl⟩
 rw [hR]
 have HS : Hid (R = mkNum ((L.length : Int) * 10000)) := by show _ = _; rw [← hR, ← hL]; rfl
 have cR := fun V => rnum_any ((L.length : Int) * 10000) V
 obtain ⟨q0, q1, q2, q3, hq⟩ := dat4 (mkNum ((L.length : Int) * 10000))
 rw [hq] at cR
 have HQ : Hid ((mkNum ((L.length : Int) * 10000)).dat = .agg #[.int .i64 q0, .int .i64 q1, .string q2, .int .i64 q3]) := hq
 have wm : wrap64 ((L.length : Int) * 10000) = (L.length : Int) * 10000 := by unfold wrap64; omega
 clear hq hsum hAll hm
 generalize bad numF (seen gs) = z at *
 generalize z.k = zk at *
 generalize z.n = zn at *
 generalize z.s = zs' at *
 generalize z.e = ze at *
 obtain ⟨C0, hC0⟩ : ∃ q, L.length = q := ⟨_, rfl⟩
 have HC0 : Hid (L.length = C0) := hC0
 rw [hC0] at CT cR HQ HS wm
 obtain ⟨C1, hC1⟩ : ∃ r : Int, (C0 : Int) * 10000 = r := ⟨_, rfl⟩
 rw [hC1] at cR HQ HS
 have wm2 : wrap64 ((C0 : Int) * 10000) = C1 := by rw [wm, hC1]
 clear wm hC1 hF hL hR hC0
 go_enter Tryd.func11, Tryd.ntmps11
 go_wp2_with fail
 refine (CT.out _ ((Ext.refl _).alloc _)).mono ?_
 rintro e w1 ⟨ov, rfl, O1, E1⟩
 obtain ⟨pv, cv, rfl, _⟩ := own_form O1
 have X1 : Hid (Ext W w1) := ((Ext.refl _).alloc _).trans E1
 have HB1 : Hid (Blk w1 W.heap.size (.int .i64 0) (.int .i64 0) (.string ⟨#[]⟩) (.int .i64 0)) := blk_top (by simp) E1
 have HI1 : Hid (RdI w1 (.slice pv C0 cv) L) := ⟨_, by rw [HC0.out]; exact O1⟩
 obtain ⟨c0z, ⟨c0_0, c0_1, c0_2, c0_3⟩, c0f0, c0f1, c0f2, c0f3⟩ := HB1.out
 clear E1 O1
 go_wp2_with fail
 refine (cR _).mono ?_
 rintro e w2 ⟨rfl, E2⟩
 have X2 : Hid (Ext W w2) := Ext.trans (by with_reducible repeat (first | exact X1.out | exact Ext.refl _ | apply Ext.alloc | apply Ext.drewN | (refine Ext.setCell ?_ (by simp) _))) E2
 have HB2 : Hid (Blk w2 W.heap.size (.int .i64 0) (.int .i64 0) (.string ⟨#[]⟩) (.int .i64 0)) := ((HB1.out.al _)).ext E2
 clear c0z c0_0 c0_1 c0_2 c0_3 c0f0 c0f1 c0f2 c0f3 E2
 obtain ⟨c0z, ⟨c0_0, c0_1, c0_2, c0_3⟩, c0f0, c0f1, c0f2, c0f3⟩ := HB2.out
 go_wp2_with fail
 exact finB (HB2.out.set _ _ _ _) rfl (by with_reducible repeat (first | exact X2.out | exact Ext.refl _ | apply Ext.alloc | apply Ext.drewN | (refine Ext.setCell ?_ (by simp) _))) (fun g0 g1 g2 g3 => by simp [results, Tryd.results11, go_sem, g0, g1, g2, g3]) (fun h => ⟨by rw [HS.out, HQ.out], h⟩)

set_option maxRecDepth 100000 in
theorem rcall_sum (gs : List Ag) (W : World) (p : Option Addr) (n c : Nat) (hF : Fit W (.slice p n c) gs) :
   Calls Tryd.prog 11 #[.string ⟨#[83, 85, 77]⟩, .slice p n c] W fun e w' => e = .returned (fSum gs).dat ∧ Ext W w' := by
 have CT : Hid (∀ V, Ext W V → Calls Tryd.prog 25 #[.slice p n c] V fun e w' => ∃ ov, e = .returned (.tuple #[ov, (bad numF (seen gs)).dat]) ∧ w'.ownsRow V.heap.size 2 1 ov (got numF (seen gs)).length ((got numF (seen gs)).flatMap cI) ∧ Ext V w') := fun V e => numbers_any13 gs p n c V (hF.ext e)
 have hm := hF.num
 have hAll : ∀ v ∈ got numF (seen gs), I64 v.n := fun v hv => by
   obtain ⟨m, rfl, h1, _⟩ := got_nums _ (seen_ok gs hF.i) v hv
   exact h1
 have hsum := hF.sum
 obtain ⟨L, hL⟩ : ∃ L, got numF (seen gs) = L := ⟨_, rfl⟩
 have HB : Hid ((bad numF (seen gs)).dat = .agg #[.int .i64 (bad numF (seen gs)).k, .int .i64 (bad numF (seen gs)).n, .string (bad numF (seen gs)).s, .int .i64 (bad numF (seen gs)).e]) := dat_eq _
 rw [dat_eq (bad numF (seen gs)), hL] at CT
 rw [hL] at hm hAll hsum
 obtain ⟨R, hR⟩ : ∃ R, fSum gs = R := ⟨_, rfl⟩
 rw [hR]
 have HS : Hid (R = if (bad numF (seen gs)).k = 4 then bad numF (seen gs) else toldR (toldB (sumN L)) (toldV (sumN L))) := by show _ = _; rw [← hR, ← hL]; rfl
 have cTo := fun V => rtold_acc (sumN L) V
 have cR := fun V => rtold13_any (toldV (sumN L)) (toldB (sumN L)) V
 obtain ⟨q0, q1, q2, q3, hq⟩ := dat4 (toldR (toldB (sumN L)) (toldV (sumN L)))
 rw [hq] at cR
 have HQ : Hid ((toldR (toldB (sumN L)) (toldV (sumN L))).dat = .agg #[.int .i64 q0, .int .i64 q1, .string q2, .int .i64 q3]) := hq
 have cS := fun V (h : RdI V (.slice (none : Option Addr) 0 0) L) => h
 clear hq cS
 generalize bad numF (seen gs) = z at *
 obtain ⟨zk, hzk⟩ : ∃ r, z.k = r := ⟨_, rfl⟩
 obtain ⟨zn, hzn⟩ : ∃ r, z.n = r := ⟨_, rfl⟩
 obtain ⟨zs', hzs⟩ : ∃ r, z.s = r := ⟨_, rfl⟩
 obtain ⟨ze, hze⟩ : ∃ r, z.e = r := ⟨_, rfl⟩
 rw [hzk, hzn, hzs, hze] at CT HB
 rw [hzk] at HS
 clear hzk hzn hzs hze
 have HL : Hid (L.length ≤ 15000 ∧ (∀ v ∈ L, I64 v.n) ∧ I128 (sumN L)) := ⟨hm, hAll, hsum⟩
 obtain ⟨C0, hC0⟩ : ∃ q, L.length = q := ⟨_, rfl⟩
 have HC0 : Hid (L.length = C0) := hC0
 rw [hC0] at CT
 clear hm hAll hsum hF hL hR hC0
 have CS : Hid (∀ V pv cv, RdI V (.slice pv C0 cv) L → Calls Tryd.prog 30 #[.slice pv C0 cv] V fun e w' => e = .returned (.agg #[.int .i64 (hiOf (sumN L)), .int .u64 (loOf (sumN L))]) ∧ Ext V w') := fun V pv cv h => rtotal_any L HL.out.1 HL.out.2.1 pv C0 cv V h
 generalize sumN L = S at *
 generalize hiOf S = S0 at *
 generalize loOf S = S1 at *
 generalize toldV S = tv at *
 generalize toldB S = tb at *
 by_cases h4 : zk = 4
 · have e4 : (zk == 4) = true := by simpa using h4
   have HZ : Hid (R = z) := by show _ = _; rw [HS.out, if_pos h4]
   clear h4 HS cTo cR CS
   go_enter Tryd.func11, Tryd.ntmps11
   go_wp2_with fail
   refine (CT.out _ ((Ext.refl _).alloc _)).mono ?_
   rintro e w1 ⟨ov, rfl, O1, E1⟩
   obtain ⟨pv, cv, rfl, _⟩ := own_form O1
   have X1 : Hid (Ext W w1) := ((Ext.refl _).alloc _).trans E1
   have HB1 : Hid (Blk w1 W.heap.size (.int .i64 0) (.int .i64 0) (.string ⟨#[]⟩) (.int .i64 0)) := blk_top (by simp) E1
   have HI1 : Hid (RdI w1 (.slice pv C0 cv) L) := ⟨_, by rw [HC0.out]; exact O1⟩
   obtain ⟨c0z, ⟨c0_0, c0_1, c0_2, c0_3⟩, c0f0, c0f1, c0f2, c0f3⟩ := HB1.out
   clear E1 O1
   go_wp2_with fail
   exact finB ((HB1.out.set _ _ _ _).al _) rfl (by with_reducible repeat (first | exact X1.out | exact Ext.refl _ | apply Ext.alloc | apply Ext.drewN | (refine Ext.setCell ?_ (by simp) _))) (fun g0 g1 g2 g3 => by simp [results, Tryd.results11, go_sem, g0, g1, g2, g3]) (fun h => ⟨by rw [HZ.out, HB.out], h⟩)
 · have e4 : (zk == 4) = false := by simpa using h4
   have HZ : Hid (R = toldR tb tv) := by show _ = _; rw [HS.out, if_neg h4]
   clear h4 HS
   go_enter Tryd.func11, Tryd.ntmps11
   go_wp2_with fail
   refine (CT.out _ ((Ext.refl _).alloc _)).mono ?_
   rintro e w1 ⟨ov, rfl, O1, E1⟩
   obtain ⟨pv, cv, rfl, _⟩ := own_form O1
   have X1 : Hid (Ext W w1) := ((Ext.refl _).alloc _).trans E1
   have HB1 : Hid (Blk w1 W.heap.size (.int .i64 0) (.int .i64 0) (.string ⟨#[]⟩) (.int .i64 0)) := blk_top (by simp) E1
   have HI1 : Hid (RdI w1 (.slice pv C0 cv) L) := ⟨_, by rw [HC0.out]; exact O1⟩
   obtain ⟨c0z, ⟨c0_0, c0_1, c0_2, c0_3⟩, c0f0, c0f1, c0f2, c0f3⟩ := HB1.out
   clear E1 O1
   go_wp2_with fail
   refine (CS.out _ _ _ (HI1.out.ext ((Ext.refl _).alloc _))).mono ?_
   rintro e w2 ⟨rfl, E2⟩
   have X2 : Hid (Ext W w2) := Ext.trans (by with_reducible repeat (first | exact X1.out | exact Ext.refl _ | apply Ext.alloc | apply Ext.drewN | (refine Ext.setCell ?_ (by simp) _))) E2
   have HB2 : Hid (Blk w2 W.heap.size (.int .i64 0) (.int .i64 0) (.string ⟨#[]⟩) (.int .i64 0)) := ((HB1.out.al _)).ext E2
   clear c0z c0_0 c0_1 c0_2 c0_3 c0f0 c0f1 c0f2 c0f3 E2
   obtain ⟨c0z, ⟨c0_0, c0_1, c0_2, c0_3⟩, c0f0, c0f1, c0f2, c0f3⟩ := HB2.out
   go_wp2_with fail
   refine (cTo _).mono ?_
   rintro e w3 ⟨rfl, E3⟩
   have X3 : Hid (Ext W w3) := Ext.trans (by with_reducible repeat (first | exact X2.out | exact Ext.refl _ | apply Ext.alloc | apply Ext.drewN | (refine Ext.setCell ?_ (by simp) _))) E3
   have HB3 : Hid (Blk w3 W.heap.size (.int .i64 0) (.int .i64 0) (.string ⟨#[]⟩) (.int .i64 0)) := (HB2.out).ext E3
   clear c0z c0_0 c0_1 c0_2 c0_3 c0f0 c0f1 c0f2 c0f3 E3
   obtain ⟨c0z, ⟨c0_0, c0_1, c0_2, c0_3⟩, c0f0, c0f1, c0f2, c0f3⟩ := HB3.out
   go_wp2_with fail
   refine (cR _).mono ?_
   rintro e w4 ⟨rfl, E4⟩
   have X4 : Hid (Ext W w4) := Ext.trans (by with_reducible repeat (first | exact X3.out | exact Ext.refl _ | apply Ext.alloc | apply Ext.drewN | (refine Ext.setCell ?_ (by simp) _))) E4
   have HB4 : Hid (Blk w4 W.heap.size (.int .i64 0) (.int .i64 0) (.string ⟨#[]⟩) (.int .i64 0)) := (HB3.out).ext E4
   clear c0z c0_0 c0_1 c0_2 c0_3 c0f0 c0f1 c0f2 c0f3 E4
   obtain ⟨c0z, ⟨c0_0, c0_1, c0_2, c0_3⟩, c0f0, c0f1, c0f2, c0f3⟩ := HB4.out
   go_wp2_with fail
   exact finB (HB4.out.set _ _ _ _) rfl (by with_reducible repeat (first | exact X4.out | exact Ext.refl _ | apply Ext.alloc | apply Ext.drewN | (refine Ext.setCell ?_ (by simp) _))) (fun g0 g1 g2 g3 => by simp [results, Tryd.results11, go_sem, g0, g1, g2, g3]) (fun h => ⟨by rw [HZ.out, HQ.out], h⟩)

set_option maxRecDepth 100000 in
theorem rcall_avg (gs : List Ag) (W : World) (p : Option Addr) (n c : Nat) (hF : Fit W (.slice p n c) gs) :
   Calls Tryd.prog 11 #[.string ⟨#[65, 86, 69, 82, 65, 71, 69]⟩, .slice p n c] W fun e w' => e = .returned (fMean gs).dat ∧ Ext W w' := by
 have CT : Hid (∀ V, Ext W V → Calls Tryd.prog 25 #[.slice p n c] V fun e w' => ∃ ov, e = .returned (.tuple #[ov, (bad numF (seen gs)).dat]) ∧ w'.ownsRow V.heap.size 2 1 ov (got numF (seen gs)).length ((got numF (seen gs)).flatMap cI) ∧ Ext V w') := fun V e => numbers_any13 gs p n c V (hF.ext e)
 have hm := hF.num
 have hAll : ∀ v ∈ got numF (seen gs), I64 v.n := fun v hv => by
   obtain ⟨m, rfl, h1, _⟩ := got_nums _ (seen_ok gs hF.i) v hv
   exact h1
 have hsum := hF.sum
 obtain ⟨L, hL⟩ : ∃ L, got numF (seen gs) = L := ⟨_, rfl⟩
 have HB : Hid ((bad numF (seen gs)).dat = .agg #[.int .i64 (bad numF (seen gs)).k, .int .i64 (bad numF (seen gs)).n, .string (bad numF (seen gs)).s, .int .i64 (bad numF (seen gs)).e]) := dat_eq _
 rw [dat_eq (bad numF (seen gs)), hL] at CT
 rw [hL] at hm hAll hsum
 obtain ⟨R, hR⟩ : ∃ R, fMean gs = R := ⟨_, rfl⟩
 rw [hR]
 have HS : Hid (R = if (bad numF (seen gs)).k = 4 then bad numF (seen gs) else if L.length = 0 then .err 3 else toldR (meanB (sumN L) L.length) (meanV (sumN L) L.length)) := by show _ = _; rw [← hR, ← hL]; rfl
 have cTo := fun V => rmean_any (sumN L) hsum (L.length : Int) ⟨by omega, by omega⟩ V
 have cE := fun V => rerr_any 3 V
 rw [mkErr_is ⟨by decide, by decide⟩] at cE
 simp only [V.dat] at cE
 have cR := fun V => rtold13_any (meanV (sumN L) L.length) (meanB (sumN L) L.length) V
 obtain ⟨q0, q1, q2, q3, hq⟩ := dat4 (toldR (meanB (sumN L) L.length) (meanV (sumN L) L.length))
 rw [hq] at cR
 have HQ : Hid ((toldR (meanB (sumN L) L.length) (meanV (sumN L) L.length)).dat = .agg #[.int .i64 q0, .int .i64 q1, .string q2, .int .i64 q3]) := hq
 clear hq
 generalize bad numF (seen gs) = z at *
 obtain ⟨zk, hzk⟩ : ∃ r, z.k = r := ⟨_, rfl⟩
 obtain ⟨zn, hzn⟩ : ∃ r, z.n = r := ⟨_, rfl⟩
 obtain ⟨zs', hzs⟩ : ∃ r, z.s = r := ⟨_, rfl⟩
 obtain ⟨ze, hze⟩ : ∃ r, z.e = r := ⟨_, rfl⟩
 rw [hzk, hzn, hzs, hze] at CT HB
 rw [hzk] at HS
 clear hzk hzn hzs hze
 have HL : Hid (L.length ≤ 15000 ∧ (∀ v ∈ L, I64 v.n) ∧ I128 (sumN L)) := ⟨hm, hAll, hsum⟩
 obtain ⟨C0, hC0⟩ : ∃ q, L.length = q := ⟨_, rfl⟩
 have HC0 : Hid (L.length = C0) := hC0
 rw [hC0] at CT
 clear hm hAll hsum hF hL hR hC0
 rw [HC0.out] at HS cTo cR HQ
 have CS : Hid (∀ V pv cv, RdI V (.slice pv C0 cv) L → Calls Tryd.prog 30 #[.slice pv C0 cv] V fun e w' => e = .returned (.agg #[.int .i64 (hiOf (sumN L)), .int .u64 (loOf (sumN L))]) ∧ Ext V w') := fun V pv cv h => rtotal_any L HL.out.1 HL.out.2.1 pv C0 cv V h
 generalize sumN L = S at *
 generalize hiOf S = S0 at *
 generalize loOf S = S1 at *
 generalize meanV S (C0 : Int) = tv at *
 generalize meanB S (C0 : Int) = tb at *
 by_cases h4 : zk = 4
 · have e4 : (zk == 4) = true := by simpa using h4
   have HZ : Hid (R = z) := by show _ = _; rw [HS.out, if_pos h4]
   clear h4 HS cTo cR CS cE
   go_enter Tryd.func11, Tryd.ntmps11
   go_wp2_with fail
   refine (CT.out _ ((Ext.refl _).alloc _)).mono ?_
   rintro e w1 ⟨ov, rfl, O1, E1⟩
   obtain ⟨pv, cv, rfl, _⟩ := own_form O1
   have X1 : Hid (Ext W w1) := ((Ext.refl _).alloc _).trans E1
   have HB1 : Hid (Blk w1 W.heap.size (.int .i64 0) (.int .i64 0) (.string ⟨#[]⟩) (.int .i64 0)) := blk_top (by simp) E1
   have HI1 : Hid (RdI w1 (.slice pv C0 cv) L) := ⟨_, by rw [HC0.out]; exact O1⟩
   obtain ⟨c0z, ⟨c0_0, c0_1, c0_2, c0_3⟩, c0f0, c0f1, c0f2, c0f3⟩ := HB1.out
   clear E1 O1
   go_wp2_with fail
   exact finB ((HB1.out.set _ _ _ _).al _) rfl (by with_reducible repeat (first | exact X1.out | exact Ext.refl _ | apply Ext.alloc | apply Ext.drewN | (refine Ext.setCell ?_ (by simp) _))) (fun g0 g1 g2 g3 => by simp [results, Tryd.results11, go_sem, g0, g1, g2, g3]) (fun h => ⟨by rw [HZ.out, HB.out], h⟩)
 have e4 : (zk == 4) = false := by simpa using h4
 rw [if_neg h4] at HS
 clear h4
 by_cases hc : C0 = 0
 · have ec : ((C0 : Int) == 0) = true := by simp; omega
   have HZ : Hid (R = .err 3) := by show _ = _; rw [HS.out, if_pos hc]
   clear hc HS cTo cR CS
   go_enter Tryd.func11, Tryd.ntmps11
   go_wp2_with fail
   refine (CT.out _ ((Ext.refl _).alloc _)).mono ?_
   rintro e w1 ⟨ov, rfl, O1, E1⟩
   obtain ⟨pv, cv, rfl, _⟩ := own_form O1
   have X1 : Hid (Ext W w1) := ((Ext.refl _).alloc _).trans E1
   have HB1 : Hid (Blk w1 W.heap.size (.int .i64 0) (.int .i64 0) (.string ⟨#[]⟩) (.int .i64 0)) := blk_top (by simp) E1
   have HI1 : Hid (RdI w1 (.slice pv C0 cv) L) := ⟨_, by rw [HC0.out]; exact O1⟩
   obtain ⟨c0z, ⟨c0_0, c0_1, c0_2, c0_3⟩, c0f0, c0f1, c0f2, c0f3⟩ := HB1.out
   clear E1 O1
   go_wp2_with fail
   refine (cE _).mono ?_
   rintro e w2 ⟨rfl, E2⟩
   have X2 : Hid (Ext W w2) := Ext.trans (by with_reducible repeat (first | exact X1.out | exact Ext.refl _ | apply Ext.alloc | apply Ext.drewN | (refine Ext.setCell ?_ (by simp) _))) E2
   have HB2 : Hid (Blk w2 W.heap.size (.int .i64 0) (.int .i64 0) (.string ⟨#[]⟩) (.int .i64 0)) := ((HB1.out.al _)).ext E2
   clear c0z c0_0 c0_1 c0_2 c0_3 c0f0 c0f1 c0f2 c0f3 E2
   obtain ⟨c0z, ⟨c0_0, c0_1, c0_2, c0_3⟩, c0f0, c0f1, c0f2, c0f3⟩ := HB2.out
   go_wp2_with fail
   exact finB (HB2.out.set _ _ _ _) rfl (by with_reducible repeat (first | exact X2.out | exact Ext.refl _ | apply Ext.alloc | apply Ext.drewN | (refine Ext.setCell ?_ (by simp) _))) (fun g0 g1 g2 g3 => by simp [results, Tryd.results11, go_sem, g0, g1, g2, g3]) (fun h => ⟨by rw [HZ.out]; rfl, h⟩)
 · have ec : ((C0 : Int) == 0) = false := by simp; omega
   have HZ : Hid (R = toldR tb tv) := by show _ = _; rw [HS.out, if_neg hc]
   clear hc HS cE
   go_enter Tryd.func11, Tryd.ntmps11
   go_wp2_with fail
   refine (CT.out _ ((Ext.refl _).alloc _)).mono ?_
   rintro e w1 ⟨ov, rfl, O1, E1⟩
   obtain ⟨pv, cv, rfl, _⟩ := own_form O1
   have X1 : Hid (Ext W w1) := ((Ext.refl _).alloc _).trans E1
   have HB1 : Hid (Blk w1 W.heap.size (.int .i64 0) (.int .i64 0) (.string ⟨#[]⟩) (.int .i64 0)) := blk_top (by simp) E1
   have HI1 : Hid (RdI w1 (.slice pv C0 cv) L) := ⟨_, by rw [HC0.out]; exact O1⟩
   obtain ⟨c0z, ⟨c0_0, c0_1, c0_2, c0_3⟩, c0f0, c0f1, c0f2, c0f3⟩ := HB1.out
   clear E1 O1
   go_wp2_with fail
   refine (CS.out _ _ _ (HI1.out.ext ((Ext.refl _).alloc _))).mono ?_
   rintro e w2 ⟨rfl, E2⟩
   have X2 : Hid (Ext W w2) := Ext.trans (by with_reducible repeat (first | exact X1.out | exact Ext.refl _ | apply Ext.alloc | apply Ext.drewN | (refine Ext.setCell ?_ (by simp) _))) E2
   have HB2 : Hid (Blk w2 W.heap.size (.int .i64 0) (.int .i64 0) (.string ⟨#[]⟩) (.int .i64 0)) := ((HB1.out.al _)).ext E2
   clear c0z c0_0 c0_1 c0_2 c0_3 c0f0 c0f1 c0f2 c0f3 E2
   obtain ⟨c0z, ⟨c0_0, c0_1, c0_2, c0_3⟩, c0f0, c0f1, c0f2, c0f3⟩ := HB2.out
   go_wp2_with fail
   refine (cTo _).mono ?_
   rintro e w3 ⟨rfl, E3⟩
   have X3 : Hid (Ext W w3) := Ext.trans (by with_reducible repeat (first | exact X2.out | exact Ext.refl _ | apply Ext.alloc | apply Ext.drewN | (refine Ext.setCell ?_ (by simp) _))) E3
   have HB3 : Hid (Blk w3 W.heap.size (.int .i64 0) (.int .i64 0) (.string ⟨#[]⟩) (.int .i64 0)) := (HB2.out).ext E3
   clear c0z c0_0 c0_1 c0_2 c0_3 c0f0 c0f1 c0f2 c0f3 E3
   obtain ⟨c0z, ⟨c0_0, c0_1, c0_2, c0_3⟩, c0f0, c0f1, c0f2, c0f3⟩ := HB3.out
   go_wp2_with fail
   refine (cR _).mono ?_
   rintro e w4 ⟨rfl, E4⟩
   have X4 : Hid (Ext W w4) := Ext.trans (by with_reducible repeat (first | exact X3.out | exact Ext.refl _ | apply Ext.alloc | apply Ext.drewN | (refine Ext.setCell ?_ (by simp) _))) E4
   have HB4 : Hid (Blk w4 W.heap.size (.int .i64 0) (.int .i64 0) (.string ⟨#[]⟩) (.int .i64 0)) := (HB3.out).ext E4
   clear c0z c0_0 c0_1 c0_2 c0_3 c0f0 c0f1 c0f2 c0f3 E4
   obtain ⟨c0z, ⟨c0_0, c0_1, c0_2, c0_3⟩, c0f0, c0f1, c0f2, c0f3⟩ := HB4.out
   go_wp2_with fail
   exact finB (HB4.out.set _ _ _ _) rfl (by with_reducible repeat (first | exact X4.out | exact Ext.refl _ | apply Ext.alloc | apply Ext.drewN | (refine Ext.setCell ?_ (by simp) _))) (fun g0 g1 g2 g3 => by simp [results, Tryd.results11, go_sem, g0, g1, g2, g3]) (fun h => ⟨by rw [HZ.out, HQ.out], h⟩)

set_option maxRecDepth 100000 in
theorem rcall_min (gs : List Ag) (W : World) (p : Option Addr) (n c : Nat) (hF : Fit W (.slice p n c) gs) :
   Calls Tryd.prog 11 #[.string ⟨#[77, 73, 78]⟩, .slice p n c] W fun e w' => e = .returned (fBest ltB gs).dat ∧ Ext W w' := by
 have CT : Hid (∀ V, Ext W V → Calls Tryd.prog 25 #[.slice p n c] V fun e w' => ∃ ov, e = .returned (.tuple #[ov, (bad numF (seen gs)).dat]) ∧ w'.ownsRow V.heap.size 2 1 ov (got numF (seen gs)).length ((got numF (seen gs)).flatMap cI) ∧ Ext V w') := fun V e => numbers_any13 gs p n c V (hF.ext e)
 have hm := hF.num
 have hAll : ∀ v ∈ got numF (seen gs), I64 v.n := fun v hv => by
   obtain ⟨m, rfl, h1, _⟩ := got_nums _ (seen_ok gs hF.i) v hv
   exact h1
 have hsum := hF.sum
 obtain ⟨L, hL⟩ : ∃ L, got numF (seen gs) = L := ⟨_, rfl⟩
 have HB : Hid ((bad numF (seen gs)).dat = .agg #[.int .i64 (bad numF (seen gs)).k, .int .i64 (bad numF (seen gs)).n, .string (bad numF (seen gs)).s, .int .i64 (bad numF (seen gs)).e]) := dat_eq _
 rw [dat_eq (bad numF (seen gs)), hL] at CT
 rw [hL] at hm hAll hsum
 obtain ⟨R, hR⟩ : ∃ R, fBest ltB gs = R := ⟨_, rfl⟩
 rw [hR]
 have HS : Hid (R = if (bad numF (seen gs)).k = 4 then bad numF (seen gs) else mkNum (bestN ltB L)) := by show _ = _; rw [← hR, ← hL]; rfl
 generalize bad numF (seen gs) = z at *
 obtain ⟨zk, hzk⟩ : ∃ r, z.k = r := ⟨_, rfl⟩
 obtain ⟨zn, hzn⟩ : ∃ r, z.n = r := ⟨_, rfl⟩
 obtain ⟨zs', hzs⟩ : ∃ r, z.s = r := ⟨_, rfl⟩
 obtain ⟨ze, hze⟩ : ∃ r, z.e = r := ⟨_, rfl⟩
 rw [hzk, hzn, hzs, hze] at CT HB
 rw [hzk] at HS
 clear hzk hzn hzs hze
 have HL : Hid (L.length ≤ 15000 ∧ (∀ v ∈ L, I64 v.n) ∧ I128 (sumN L)) := ⟨hm, hAll, hsum⟩
 obtain ⟨C0, hC0⟩ : ∃ q, L.length = q := ⟨_, rfl⟩
 have HC0 : Hid (L.length = C0) := hC0
 rw [hC0] at CT
 clear hm hAll hsum hF hL hR hC0
 by_cases h4 : zk = 4
 · have e4 : (zk == 4) = true := by simpa using h4
   have HZ : Hid (R = z) := by show _ = _; rw [HS.out, if_pos h4]
   clear h4 HS
   go_enter Tryd.func11, Tryd.ntmps11
   go_wp2_with fail
   refine (CT.out _ ((Ext.refl _).alloc _)).mono ?_
   rintro e w1 ⟨ov, rfl, O1, E1⟩
   obtain ⟨pv, cv, rfl, _⟩ := own_form O1
   have X1 : Hid (Ext W w1) := ((Ext.refl _).alloc _).trans E1
   have HB1 : Hid (Blk w1 W.heap.size (.int .i64 0) (.int .i64 0) (.string ⟨#[]⟩) (.int .i64 0)) := blk_top (by simp) E1
   have HI1 : Hid (RdI w1 (.slice pv C0 cv) L) := ⟨_, by rw [HC0.out]; exact O1⟩
   obtain ⟨c0z, ⟨c0_0, c0_1, c0_2, c0_3⟩, c0f0, c0f1, c0f2, c0f3⟩ := HB1.out
   clear E1 O1
   go_wp2_with fail
   exact finB ((HB1.out.set _ _ _ _).al _) rfl (by with_reducible repeat (first | exact X1.out | exact Ext.refl _ | apply Ext.alloc | apply Ext.drewN | (refine Ext.setCell ?_ (by simp) _))) (fun g0 g1 g2 g3 => by simp [results, Tryd.results11, go_sem, g0, g1, g2, g3]) (fun h => ⟨by rw [HZ.out, HB.out], h⟩)
 have e4 : (zk == 4) = false := by simpa using h4
 rw [if_neg h4] at HS
 clear h4
 go_enter Tryd.func11, Tryd.ntmps11
 go_wp2_with fail
 refine (CT.out _ ((Ext.refl _).alloc _)).mono ?_
 rintro e w1 ⟨ov, rfl, O1, E1⟩
 obtain ⟨pv, cv, rfl, _⟩ := own_form O1
 have X1 : Hid (Ext W w1) := ((Ext.refl _).alloc _).trans E1
 have HB1 : Hid (Blk w1 W.heap.size (.int .i64 0) (.int .i64 0) (.string ⟨#[]⟩) (.int .i64 0)) := blk_top (by simp) E1
 have HI1 : Hid (RdI w1 (.slice pv C0 cv) L) := ⟨_, by rw [HC0.out]; exact O1⟩
 obtain ⟨c0z, ⟨c0_0, c0_1, c0_2, c0_3⟩, c0f0, c0f1, c0f2, c0f3⟩ := HB1.out
 clear E1 O1
 go_wp2_with fail
 generalize hW2 : World.alloc w1 _ = W2
 have X2 : Hid (Ext W W2) := by rw [← hW2]; exact X1.out.alloc _
 have HB2 : Hid (Blk W2 W.heap.size (.int .i64 0) (.int .i64 0) (.string ⟨#[]⟩) (.int .i64 0)) := by rw [← hW2]; exact HB1.out.al _
 have HI2 : Hid (RdI W2 (.slice pv C0 cv) L) := by rw [← hW2]; exact HI1.out.ext ((Ext.refl _).alloc _)
 clear hW2 c0z c0_0 c0_1 c0_2 c0_3 c0f0 c0f1 c0f2 c0f3 HI1 HB1 X1
 go_loopw [12, 11] (fun iv bv wr => ∃ j : Nat, iv = .int .i64 (j : Int) ∧ bv = .int .i64 (bestN ltB (L.take j)) ∧ j ≤ C0 ∧ wr = W2) (fun iv _ _ => C0 - (intOf iv).toNat)
 case atStart => exact ⟨0, rfl, rfl, Nat.zero_le _, rfl⟩
 case round =>
   obtain ⟨j, rfl, rfl, hj, rfl⟩ := hrel
   by_cases hlt : j < C0
   · have hltI : (j : Int) < (C0 : Int) := by omega
     obtain ⟨g, v, rfl, hv, hg, k0⟩ := HI2.out.at (i := j) (by rw [HC0.out]; exact hlt)
     have WK : Hid (wrap64 ((j : Int) + 1) = ((j + 1 : Nat) : Int)) := wrap_1 j (by have := HL.out.1; have := HC0.out; omega)
     have hj1 : j + 1 ≤ C0 := by omega
     have HT : Hid (bestN ltB (L.take (j + 1)) = if j = 0 then v.n else if ltB v.n (bestN ltB (L.take j)) then v.n else bestN ltB (L.take j)) := best_take ltB hv (by rw [HC0.out]; exact hlt)
     obtain ⟨vn, hvn⟩ : ∃ x, v.n = x := ⟨_, rfl⟩
     rw [hvn] at k0 HT
     obtain ⟨bb, hbb⟩ : ∃ x, bestN ltB (L.take j) = x := ⟨_, rfl⟩
     rw [hbb] at HT ⊢
     clear hlt hj hv hvn hbb
     by_cases h0 : j = 0
     · have e0 : ((j : Int) == 0) = true := by simp; omega
       have HX : Hid (bestN ltB (L.take (j + 1)) = vn) := by show _ = _; rw [HT.out, if_pos h0]
       clear h0
       have wk := WK.out
       go_wp2_with fail
       go_roundw
       case rel => exact ⟨j + 1, by go_num, by rw [HX.out], hj1, by trivial⟩
       case measure => exact meas C0 j hj1 wk
     have e0 : ((j : Int) == 0) = false := by simp; omega
     by_cases hc : vn < bb
     · have ec : decide (vn < bb) = true := by simpa using hc
       have HX : Hid (bestN ltB (L.take (j + 1)) = vn) := by show _ = _; rw [HT.out, if_neg h0, if_pos (by simpa [ltB] using hc)]
       clear h0
       have wk := WK.out
       go_wp2_with fail
       go_roundw
       case rel => exact ⟨j + 1, by go_num, by rw [HX.out], hj1, by trivial⟩
       case measure => exact meas C0 j hj1 wk
     · have ec : decide (vn < bb) = false := by simpa using hc
       have HX : Hid (bestN ltB (L.take (j + 1)) = bb) := by show _ = _; rw [HT.out, if_neg h0, if_neg (by simpa [ltB] using hc)]
       clear h0
       have wk := WK.out
       go_wp2_with fail
       go_roundw
       case rel => exact ⟨j + 1, by go_num, by rw [HX.out], hj1, by trivial⟩
       case measure => exact meas C0 j hj1 wk
   · have hltI : ¬ (j : Int) < (C0 : Int) := by omega
     have HT : Hid (bestN ltB (L.take j) = bestN ltB L) := by
       show _ = _
       rw [show L.take j = L from List.take_of_length_le (by have := HC0.out; omega)]
     have cR := fun V => rnum_any (bestN ltB L) V
     obtain ⟨q0, q1, q2, q3, hq⟩ := dat4 (mkNum (bestN ltB L))
     rw [hq] at cR
     have HQ : Hid ((mkNum (bestN ltB L)).dat = .agg #[.int .i64 q0, .int .i64 q1, .string q2, .int .i64 q3]) := hq
     rw [HT.out]
     obtain ⟨bb, hbb⟩ : ∃ x, bestN ltB L = x := ⟨_, rfl⟩
     rw [hbb] at cR HQ HS ⊢
     clear hlt hj hq hbb
     go_wp2_with fail
     refine (cR _).mono ?_
     rintro e w3 ⟨rfl, E3⟩
     have X3 : Hid (Ext W w3) := X2.out.trans E3
     have HB3 : Hid (Blk w3 W.heap.size (.int .i64 0) (.int .i64 0) (.string ⟨#[]⟩) (.int .i64 0)) := HB2.out.ext E3
     clear E3
     obtain ⟨c0z, ⟨c0_0, c0_1, c0_2, c0_3⟩, c0f0, c0f1, c0f2, c0f3⟩ := HB3.out
     go_wp2_with fail
     exact finB (HB3.out.set _ _ _ _) rfl (by with_reducible repeat (first | exact X3.out | exact Ext.refl _ | apply Ext.alloc | apply Ext.drewN | (refine Ext.setCell ?_ (by simp) _))) (fun g0 g1 g2 g3 => by simp [results, Tryd.results11, go_sem, g0, g1, g2, g3]) (fun h => ⟨by rw [HS.out, HQ.out], h⟩)
set_option maxRecDepth 100000 in
theorem rcall_max (gs : List Ag) (W : World) (p : Option Addr) (n c : Nat) (hF : Fit W (.slice p n c) gs) :
   Calls Tryd.prog 11 #[.string ⟨#[77, 65, 88]⟩, .slice p n c] W fun e w' => e = .returned (fBest gtB gs).dat ∧ Ext W w' := by
 have CT : Hid (∀ V, Ext W V → Calls Tryd.prog 25 #[.slice p n c] V fun e w' => ∃ ov, e = .returned (.tuple #[ov, (bad numF (seen gs)).dat]) ∧ w'.ownsRow V.heap.size 2 1 ov (got numF (seen gs)).length ((got numF (seen gs)).flatMap cI) ∧ Ext V w') := fun V e => numbers_any13 gs p n c V (hF.ext e)
 have hm := hF.num
 have hAll : ∀ v ∈ got numF (seen gs), I64 v.n := fun v hv => by
   obtain ⟨m, rfl, h1, _⟩ := got_nums _ (seen_ok gs hF.i) v hv
   exact h1
 have hsum := hF.sum
 obtain ⟨L, hL⟩ : ∃ L, got numF (seen gs) = L := ⟨_, rfl⟩
 have HB : Hid ((bad numF (seen gs)).dat = .agg #[.int .i64 (bad numF (seen gs)).k, .int .i64 (bad numF (seen gs)).n, .string (bad numF (seen gs)).s, .int .i64 (bad numF (seen gs)).e]) := dat_eq _
 rw [dat_eq (bad numF (seen gs)), hL] at CT
 rw [hL] at hm hAll hsum
 obtain ⟨R, hR⟩ : ∃ R, fBest gtB gs = R := ⟨_, rfl⟩
 rw [hR]
 have HS : Hid (R = if (bad numF (seen gs)).k = 4 then bad numF (seen gs) else mkNum (bestN gtB L)) := by show _ = _; rw [← hR, ← hL]; rfl
 generalize bad numF (seen gs) = z at *
 obtain ⟨zk, hzk⟩ : ∃ r, z.k = r := ⟨_, rfl⟩
 obtain ⟨zn, hzn⟩ : ∃ r, z.n = r := ⟨_, rfl⟩
 obtain ⟨zs', hzs⟩ : ∃ r, z.s = r := ⟨_, rfl⟩
 obtain ⟨ze, hze⟩ : ∃ r, z.e = r := ⟨_, rfl⟩
 rw [hzk, hzn, hzs, hze] at CT HB
 rw [hzk] at HS
 clear hzk hzn hzs hze
 have HL : Hid (L.length ≤ 15000 ∧ (∀ v ∈ L, I64 v.n) ∧ I128 (sumN L)) := ⟨hm, hAll, hsum⟩
 obtain ⟨C0, hC0⟩ : ∃ q, L.length = q := ⟨_, rfl⟩
 have HC0 : Hid (L.length = C0) := hC0
 rw [hC0] at CT
 clear hm hAll hsum hF hL hR hC0
 by_cases h4 : zk = 4
 · have e4 : (zk == 4) = true := by simpa using h4
   have HZ : Hid (R = z) := by show _ = _; rw [HS.out, if_pos h4]
   clear h4 HS
   go_enter Tryd.func11, Tryd.ntmps11
   go_wp2_with fail
   refine (CT.out _ ((Ext.refl _).alloc _)).mono ?_
   rintro e w1 ⟨ov, rfl, O1, E1⟩
   obtain ⟨pv, cv, rfl, _⟩ := own_form O1
   have X1 : Hid (Ext W w1) := ((Ext.refl _).alloc _).trans E1
   have HB1 : Hid (Blk w1 W.heap.size (.int .i64 0) (.int .i64 0) (.string ⟨#[]⟩) (.int .i64 0)) := blk_top (by simp) E1
   have HI1 : Hid (RdI w1 (.slice pv C0 cv) L) := ⟨_, by rw [HC0.out]; exact O1⟩
   obtain ⟨c0z, ⟨c0_0, c0_1, c0_2, c0_3⟩, c0f0, c0f1, c0f2, c0f3⟩ := HB1.out
   clear E1 O1
   go_wp2_with fail
   exact finB ((HB1.out.set _ _ _ _).al _) rfl (by with_reducible repeat (first | exact X1.out | exact Ext.refl _ | apply Ext.alloc | apply Ext.drewN | (refine Ext.setCell ?_ (by simp) _))) (fun g0 g1 g2 g3 => by simp [results, Tryd.results11, go_sem, g0, g1, g2, g3]) (fun h => ⟨by rw [HZ.out, HB.out], h⟩)
 have e4 : (zk == 4) = false := by simpa using h4
 rw [if_neg h4] at HS
 clear h4
 go_enter Tryd.func11, Tryd.ntmps11
 go_wp2_with fail
 refine (CT.out _ ((Ext.refl _).alloc _)).mono ?_
 rintro e w1 ⟨ov, rfl, O1, E1⟩
 obtain ⟨pv, cv, rfl, _⟩ := own_form O1
 have X1 : Hid (Ext W w1) := ((Ext.refl _).alloc _).trans E1
 have HB1 : Hid (Blk w1 W.heap.size (.int .i64 0) (.int .i64 0) (.string ⟨#[]⟩) (.int .i64 0)) := blk_top (by simp) E1
 have HI1 : Hid (RdI w1 (.slice pv C0 cv) L) := ⟨_, by rw [HC0.out]; exact O1⟩
 obtain ⟨c0z, ⟨c0_0, c0_1, c0_2, c0_3⟩, c0f0, c0f1, c0f2, c0f3⟩ := HB1.out
 clear E1 O1
 go_wp2_with fail
 generalize hW2 : World.alloc w1 _ = W2
 have X2 : Hid (Ext W W2) := by rw [← hW2]; exact X1.out.alloc _
 have HB2 : Hid (Blk W2 W.heap.size (.int .i64 0) (.int .i64 0) (.string ⟨#[]⟩) (.int .i64 0)) := by rw [← hW2]; exact HB1.out.al _
 have HI2 : Hid (RdI W2 (.slice pv C0 cv) L) := by rw [← hW2]; exact HI1.out.ext ((Ext.refl _).alloc _)
 clear hW2 c0z c0_0 c0_1 c0_2 c0_3 c0f0 c0f1 c0f2 c0f3 HI1 HB1 X1
 go_loopw [12, 11] (fun iv bv wr => ∃ j : Nat, iv = .int .i64 (j : Int) ∧ bv = .int .i64 (bestN gtB (L.take j)) ∧ j ≤ C0 ∧ wr = W2) (fun iv _ _ => C0 - (intOf iv).toNat)
 case atStart => exact ⟨0, rfl, rfl, Nat.zero_le _, rfl⟩
 case round =>
   obtain ⟨j, rfl, rfl, hj, rfl⟩ := hrel
   by_cases hlt : j < C0
   · have hltI : (j : Int) < (C0 : Int) := by omega
     obtain ⟨g, v, rfl, hv, hg, k0⟩ := HI2.out.at (i := j) (by rw [HC0.out]; exact hlt)
     have WK : Hid (wrap64 ((j : Int) + 1) = ((j + 1 : Nat) : Int)) := wrap_1 j (by have := HL.out.1; have := HC0.out; omega)
     have hj1 : j + 1 ≤ C0 := by omega
     have HT : Hid (bestN gtB (L.take (j + 1)) = if j = 0 then v.n else if gtB v.n (bestN gtB (L.take j)) then v.n else bestN gtB (L.take j)) := best_take gtB hv (by rw [HC0.out]; exact hlt)
     obtain ⟨vn, hvn⟩ : ∃ x, v.n = x := ⟨_, rfl⟩
     rw [hvn] at k0 HT
     obtain ⟨bb, hbb⟩ : ∃ x, bestN gtB (L.take j) = x := ⟨_, rfl⟩
     rw [hbb] at HT ⊢
     clear hlt hj hv hvn hbb
     by_cases h0 : j = 0
     · have e0 : ((j : Int) == 0) = true := by simp; omega
       have HX : Hid (bestN gtB (L.take (j + 1)) = vn) := by show _ = _; rw [HT.out, if_pos h0]
       clear h0
       have wk := WK.out
       go_wp2_with fail
       go_roundw
       case rel => exact ⟨j + 1, by go_num, by rw [HX.out], hj1, by trivial⟩
       case measure => exact meas C0 j hj1 wk
     have e0 : ((j : Int) == 0) = false := by simp; omega
     by_cases hc : vn > bb
     · have ec : decide (vn > bb) = true := by simpa using hc
       have HX : Hid (bestN gtB (L.take (j + 1)) = vn) := by show _ = _; rw [HT.out, if_neg h0, if_pos (by simpa [gtB] using hc)]
       clear h0
       have wk := WK.out
       go_wp2_with fail
       go_roundw
       case rel => exact ⟨j + 1, by go_num, by rw [HX.out], hj1, by trivial⟩
       case measure => exact meas C0 j hj1 wk
     · have ec : decide (vn > bb) = false := by simpa using hc
       have HX : Hid (bestN gtB (L.take (j + 1)) = bb) := by show _ = _; rw [HT.out, if_neg h0, if_neg (by simpa [gtB] using hc)]
       clear h0
       have wk := WK.out
       go_wp2_with fail
       go_roundw
       case rel => exact ⟨j + 1, by go_num, by rw [HX.out], hj1, by trivial⟩
       case measure => exact meas C0 j hj1 wk
   · have hltI : ¬ (j : Int) < (C0 : Int) := by omega
     have HT : Hid (bestN gtB (L.take j) = bestN gtB L) := by
       show _ = _
       rw [show L.take j = L from List.take_of_length_le (by have := HC0.out; omega)]
     have cR := fun V => rnum_any (bestN gtB L) V
     obtain ⟨q0, q1, q2, q3, hq⟩ := dat4 (mkNum (bestN gtB L))
     rw [hq] at cR
     have HQ : Hid ((mkNum (bestN gtB L)).dat = .agg #[.int .i64 q0, .int .i64 q1, .string q2, .int .i64 q3]) := hq
     rw [HT.out]
     obtain ⟨bb, hbb⟩ : ∃ x, bestN gtB L = x := ⟨_, rfl⟩
     rw [hbb] at cR HQ HS ⊢
     clear hlt hj hq hbb
     go_wp2_with fail
     refine (cR _).mono ?_
     rintro e w3 ⟨rfl, E3⟩
     have X3 : Hid (Ext W w3) := X2.out.trans E3
     have HB3 : Hid (Blk w3 W.heap.size (.int .i64 0) (.int .i64 0) (.string ⟨#[]⟩) (.int .i64 0)) := HB2.out.ext E3
     clear E3
     obtain ⟨c0z, ⟨c0_0, c0_1, c0_2, c0_3⟩, c0f0, c0f1, c0f2, c0f3⟩ := HB3.out
     go_wp2_with fail
     exact finB (HB3.out.set _ _ _ _) rfl (by with_reducible repeat (first | exact X3.out | exact Ext.refl _ | apply Ext.alloc | apply Ext.drewN | (refine Ext.setCell ?_ (by simp) _))) (fun g0 g1 g2 g3 => by simp [results, Tryd.results11, go_sem, g0, g1, g2, g3]) (fun h => ⟨by rw [HS.out, HQ.out], h⟩)

open Go.RowKit
set_option maxHeartbeats 1000000

theorem wrap_id (x : Int) (h1 : -9223372036854775808 ≤ x) (h2 : x ≤ 9223372036854775807) : wrap64 x = x := by unfold wrap64; omega
def fitN : List Ag → Nat
 | [] => 0
 | a :: l => 1 + a.l.length + fitN l
theorem fitN_app (a b : List Ag) : fitN (a ++ b) = fitN a + fitN b := by
 induction a with
 | nil => simp [fitN]
 | cons x a ih => simp only [List.cons_append, fitN, ih]; omega
theorem fitN_take {l : List Ag} {j : Nat} {a : Ag} (h : l[j]? = some a) : fitN (l.take (j + 1)) = fitN (l.take j) + 1 + a.l.length := by
 rw [List.take_add_one, h]
 show fitN (l.take j ++ [a]) = _
 rw [fitN_app]; simp [fitN]; omega
theorem fitN_le (l : List Ag) (j : Nat) : fitN (l.take j) ≤ fitN l := by
 have : fitN l = fitN (l.take j) + fitN (l.drop j) := by rw [← fitN_app, List.take_append_drop]
 omega
theorem fit_seen (l : List Ag) : (seen l).length ≤ fitN l ∧ l.length ≤ fitN l := by
 induction l with
 | nil => simp [seen, fitN]
 | cons a l ih =>
   have h1 : (seen1 a).length ≤ 1 + a.l.length := by unfold seen1; split <;> simp
   have h2 : seen (a :: l) = seen1 a ++ seen l := rfl
   rw [h2, List.length_append, List.length_cons]
   simp only [fitN]
   omega
theorem fit_mem {l : List Ag} {a : Ag} (h : a ∈ l) : a.l.length ≤ fitN l := by
 induction l with
 | nil => cases h
 | cons x l ih =>
   simp only [fitN]
   rcases List.mem_cons.1 h with rfl | h
   · omega
   · have := ih h; omega
set_option maxRecDepth 100000 in
theorem fits_any (gs : List Ag) (p : Option Addr) (n c : Nat) (W : World) (h : RdA W.heap.size W (.slice p n c) gs) (hm : ∀ a ∈ gs, a.l.length ≤ 140737488351232) :
   Calls Tryd.prog 7 #[.slice p n c] W fun e w' => e = .returned (.bool (decide (fitN gs ≤ 5000))) ∧ w' = W := by
 have HR : Hid (RdA W.heap.size W (.slice p n c) gs) := h
 have HN : Hid (n = gs.length ∧ ∀ a ∈ gs, a.l.length ≤ 140737488351232) := by
   obtain ⟨p', c', h1, _⟩ := h
   cases h1
   exact ⟨rfl, hm⟩
 clear h hm
 go_enter Tryd.func7, Tryd.ntmps7
 go_wp2_with fail
 go_loopw [4, 3] (fun iv mv wr => ∃ j : Nat, iv = .int .i64 (j : Int) ∧ mv = .int .i64 (fitN (gs.take j) : Int) ∧ fitN (gs.take j) ≤ 5000 ∧ j ≤ n ∧ wr = W) (fun iv _ _ => n - (intOf iv).toNat)
 case atStart => exact ⟨0, rfl, rfl, by simp [fitN], Nat.zero_le _, rfl⟩
 case round =>
   obtain ⟨j, rfl, rfl, hm, hj, rfl⟩ := hrel
   have HM : Hid (fitN (gs.take j) ≤ 5000) := hm
   by_cases hlt : j < n
   · have hltI : (j : Int) < (n : Int) := by omega
     obtain ⟨b, off, a, x, y, lv, rfl, ha, hb, hbW, ⟨k0, k1, k2, k3⟩, hV⟩ := HR.out.at (i := j) (by rw [← HN.out.1]; exact hlt)
     obtain ⟨p', n', c', rfl, hn', hc'⟩ := hV.form
     have HT : Hid (fitN (gs.take (j + 1)) = fitN (gs.take j) + 1 + n') := by show _ = _; rw [fitN_take ha, hn']
     have hml := HN.out.2 a (List.mem_of_getElem? ha)
     have hj0 : j ≤ 5000 := by
       have h2 : (gs.take j).length ≤ fitN (gs.take j) := (fit_seen (gs.take j)).2
       have h3 : (gs.take j).length = j := by rw [List.length_take]; have := HN.out.1; omega
       omega
     have WK : Hid (wrap64 ((j : Int) + 1) = ((j + 1 : Nat) : Int)) := wrap_1 j (by omega)
     have hj1 : j + 1 ≤ n := by omega
     obtain ⟨m, hmm⟩ : ∃ m, fitN (gs.take j) = m := ⟨_, rfl⟩
     rw [hmm] at HT HM hm ⊢
     obtain ⟨M1, hM1⟩ : ∃ q : Int, (m : Int) + 1 = q := ⟨_, rfl⟩
     obtain ⟨M2, hM2⟩ : ∃ q : Int, M1 + (n' : Int) = q := ⟨_, rfl⟩
     have hz1 : M1 ≤ 5001 ∧ 0 ≤ M1 := by omega
     have hz2 : M2 ≤ 140737488356233 ∧ 0 ≤ M2 := by omega
     have w1 : wrap64 ((m : Int) + 1) = M1 := (wrap_id _ (by omega) (by omega)).trans hM1
     have w2 : wrap64 (M1 + (n' : Int)) = M2 := (wrap_id _ (by clear w1; omega) (by clear w1; omega)).trans hM2
     have HQ : Hid (M2 = ((fitN (gs.take (j + 1)) : Nat) : Int)) := by show _ = _; rw [HT.out]; clear w1 w2; omega
     by_cases hg : 5000 < fitN (gs.take (j + 1))
     · have hd : decide (M2 > 5000) = true := by simp; have := HQ.out; clear w1 w2; omega
       have hI : M2 > 5000 := by have := HQ.out; clear w1 w2; omega
       have HR2 : Hid (decide (fitN gs ≤ 5000) = false) := by show _ = _; simp; have := fitN_le gs (j + 1); clear w1 w2; omega
       clear hg hm hM1 hM2 hz1 hz2 hml hn' hc' ha hV hb hlt hj hmm hj0
       go_wp2_with fail
       go_ret
       exact ⟨ret_bool HR2.out.symm, rfl⟩
     · have hd : decide (M2 > 5000) = false := by simp; have := HQ.out; clear w1 w2; omega
       have hI : ¬ M2 > 5000 := by have := HQ.out; clear w1 w2; omega
       have HG : Hid (fitN (gs.take (j + 1)) ≤ 5000) := by show _ ≤ _; clear w1 w2; omega
       clear hg hm hM1 hM2 hz1 hz2 hml hn' hc' ha hV hb hlt hj hmm hj0
       have wk := WK.out
       go_wp2_with fail
       go_roundw
       case rel => exact ⟨j + 1, by go_num, by rw [w2, HQ.out], HG.out, hj1, by trivial⟩
       case measure => exact meas n j hj1 wk
   · have hltI : ¬ (j : Int) < (n : Int) := by omega
     have HR2 : Hid (decide (fitN gs ≤ 5000) = true) := by
       show _ = _
       rw [show gs.take j = gs from List.take_of_length_le (by have := HN.out.1; omega)] at hm
       simpa using hm
     clear hlt hj hm
     go_wp2_with fail
     go_ret
     exact ⟨ret_bool HR2.out.symm, rfl⟩
/-! ### Arguments in memory of their own -/
theorem cA_one (q : Ag × Int × Int × Value) (h : q.2.2.2.oneCell' = true) : ∀ u ∈ [q].flatMap cA, u.oneCell' = true := by
 intro u hu
 simp [cA] at hu
 rcases hu with rfl | rfl | rfl | rfl
 · rfl
 · rfl
 · rfl
 · exact h
/-- The state of own when gs was copied. -/
structure Owns (W : World) (gs : List Ag) (ov : Value) (V : World) : Prop where
 e : Ext W V
 q : ∃ qs : List (Ag × Int × Int × Value), qs.map Prod.fst = gs ∧ V.ownsRow W.heap.size 42 4 ov qs.length (qs.flatMap cA) ∧ ∀ q ∈ qs, V.ownsRow W.heap.size 26 4 q.2.2.2 q.1.l.length (q.1.l.flatMap cV)
theorem Owns.ext {W : World} {gs : List Ag} {ov : Value} {V V' : World} (h : Owns W gs ov V) (e : Ext V V') : Owns W gs ov V' := by
 obtain ⟨h1, qs, h2, h3, h4⟩ := h
 exact ⟨h1.trans e, qs, h2, ownsRow_ext h3 e, fun q hq => ownsRow_ext (h4 q hq) e⟩
theorem Owns.rd {W : World} {gs : List Ag} {ov : Value} {V : World} (h : Owns W gs ov V) : RdA V.heap.size V ov gs := by
 obtain ⟨h1, qs, h2, h3, h4⟩ := h
 rw [← h2]
 exact own_rdA h3 (fun q hq => own_rdV (h4 q hq))
/-- A row of values is no row of arguments. -/
theorem apart {V : World} {base : Nat} {v ov : Value} {n m : Nat} {xs ys : List Value} (h : V.ownsRow base 26 4 v n xs) (g : V.ownsRow base 42 4 ov m ys) : v.ownBlock = none ∨ v.ownBlock ≠ ov.ownBlock := by
 rcases h.2 with ⟨rfl, _⟩ | ⟨b, _, cur, rfl, _, h3, _⟩
 · exact .inl rfl
 · right
   rcases g.2 with ⟨rfl, _⟩ | ⟨b', _, cur', rfl, _, g3, _⟩
   · simp [Value.ownBlock]
   · intro e
     simp [Value.ownBlock] at e
     subst e
     rw [h3] at g3
     cases g3
theorem owns_app {ops : Array Oper} {rest : List Oper} {o : Oper} {act : Act} {Q : Exit → Act → World → Prop} (W V WA : World) (s x : Operand) (ov : Value) (gs : List Ag) (a : Ag) (y z : Int) (lv : Value) (g : Nat) (hgd : o.guard = none)
   (ho : o.op = .call { callee := .builtin .append, args := #[s, x], argTypes := #[22, 22] }) (hs : act.eval s = ov) (hx : act.eval x = .slice (some ⟨g, 0, none⟩) 1 1)
   (hc : WA.cell? ⟨g, 0, none⟩ = some (.bool a.area) ∧ WA.cell? ⟨g, 1, none⟩ = some (.int .i64 y) ∧ WA.cell? ⟨g, 2, none⟩ = some (.int .i64 z) ∧ WA.cell? ⟨g, 3, none⟩ = some lv)
   (h : Owns W gs ov V) (e : Ext V WA) (hlv : WA.ownsRow W.heap.size 26 4 lv a.l.length (a.l.flatMap cV)) (h1 : lv.oneCell' = true) (hl : gs.length ≤ 5000)
   (K : ∀ p c W', Owns W (gs ++ [a]) (.slice p (gs.length + 1) c) W' → wpList Tryd.prog ops Q rest (act.put o.dst (.slice p (gs.length + 1) c)) W') :
   wpList Tryd.prog ops Q (o :: rest) act WA := by
 obtain ⟨h0, qs, h2, h3, h4⟩ := h.ext e
 have hq : qs.length = gs.length := by rw [← h2]; simp
 refine own_app2 eltA WA W s x ov _ qs.length 1 (qs.flatMap cA) (cA (a, y, z, lv)) W.heap.size hgd ho hs hx h3 ⟨rfl, _, _, rfl, .inr ⟨_, rfl, ?_⟩⟩ ?_ (by unfold maxLen; omega) (by omega) h0 (Nat.le_refl _) h0.size ?_
 · intro j u hj
   rw [Addr.add_lit, Nat.zero_add]
   match j, hj with
   | 0, hj => simp [cA] at hj; subst hj; exact hc.1
   | 1, hj => simp [cA] at hj; subst hj; exact hc.2.1
   | 2, hj => simp [cA] at hj; subst hj; exact hc.2.2.1
   | 3, hj => simp [cA] at hj; subst hj; exact hc.2.2.2
   | j + 4, hj => simp [cA] at hj
 · intro u hu
   exact cA_one (a, y, z, lv) h1 u (by simpa using hu)
 · intro v' W' k1 k2 k3 _
   obtain ⟨p, c, rfl, _⟩ := own_form k1
   rw [hq] at k1 ⊢
   refine K p c W' ⟨k2, qs ++ [(a, y, z, lv)], by simp [h2], by simpa [hq] using k1, ?_⟩
   intro q hqq
   rcases List.mem_append.1 hqq with hqq | hqq
   · exact (h4 q hqq).kept k3 (apart (h4 q hqq) h3)
   · simp at hqq
     subst hqq
     exact hlv.kept k3 (apart hlv h3)
theorem own_newAt {T : TypeId} {k b : Nat} (w W : World) (hb : b = W.heap.size) (h : w.heap.size ≤ W.heap.size) : (W.alloc (.cells #[] T)).ownsRow w.heap.size T k (.slice (some ⟨b, 0, none⟩) 0 0) 0 [] := by subst hb; exact own_new w W h
set_option maxRecDepth 100000 in
theorem own13_any (gs : List Ag) (p : Option Addr) (n c : Nat) (W : World) (h : RdA W.heap.size W (.slice p n c) gs) (hf : fitN gs ≤ 5000) :
   Calls Tryd.prog 10 #[.slice p n c] W fun e w' => ∃ p' c', e = .returned (.slice p' n c') ∧ RdA w'.heap.size w' (.slice p' n c') gs ∧ Ext W w' := by
 have HR : Hid (RdA W.heap.size W (.slice p n c) gs) := h
 have HN : Hid (n = gs.length ∧ fitN gs ≤ 5000) := by
   obtain ⟨p', c', h1, _⟩ := h
   cases h1
   exact ⟨rfl, hf⟩
 clear h hf
 go_enter Tryd.func10, Tryd.ntmps10
 go_wp2_with fail
 go_loopw [4, 3] (fun iv ov wr => ∃ (j : Nat) (pv : Option Addr) (cv : Nat), iv = .int .i64 (j : Int) ∧ ov = .slice pv j cv ∧ j ≤ n ∧ Owns W (gs.take j) (.slice pv j cv) wr) (fun iv _ _ => n - (intOf iv).toNat)
 case atStart => exact ⟨0, _, _, rfl, rfl, Nat.zero_le _, (Ext.refl _).alloc _, [], by simp, own_new W W (Nat.le_refl _), by intro q hq; cases hq⟩
 case round =>
   obtain ⟨j, pv, cv, rfl, rfl, hj, hS⟩ := hrel
   have HS : Hid (Owns W (gs.take j) (.slice pv j cv) wr) := hS
   clear hS
   by_cases hlt : j < n
   · have hltI : (j : Int) < (n : Int) := by omega
     obtain ⟨b, off, a, x, y, lv, rfl, ha, hb, hbW, ⟨k0, k1, k2, k3⟩, hV⟩ := (HR.out.low HS.out.e).at (i := j) (by rw [← HN.out.1]; exact hlt)
     obtain ⟨p', n', c', rfl, hn', hc'⟩ := hV.form
     have hal : a.l.length ≤ 5000 := Nat.le_trans (fit_mem (List.mem_of_getElem? ha)) HN.out.2
     have hnl : gs.length ≤ 5000 := Nat.le_trans (fit_seen gs).2 HN.out.2
     have HV : Hid (RdV W.heap.size wr (.slice p' n' c') a.l ∧ gs[j]? = some a ∧ n' = a.l.length ∧ a.l.length ≤ 5000 ∧ n ≤ 5000) := ⟨hV, ha, hn', hal, by have := HN.out.1; omega⟩
     have WK : Hid (wrap64 ((j : Int) + 1) = ((j + 1 : Nat) : Int)) := wrap_1 j (by have := HN.out.1; omega)
     have hj1 : j + 1 ≤ n := by omega
     have HE : Hid (Ext W wr) := HS.out.e
     clear hV ha hn' hc' hb hal hnl
     have hal2 : a.l.length * 40 ≤ 200000 := by have := HV.out.2.2.2.1; omega
     have HA2 : Hid (a.l.length * 40 ≤ 200000) := hal2
     have hjt : (gs.take j).length = j := by rw [List.length_take]; have := HN.out.1; omega
     have HJT : Hid ((gs.take j).length = j) := hjt
     clear hal2 hjt
     go_wp2_with (at_builtin; first | (have hM := HM.out; refine owns_app W wr _ _ _ _ (gs.take j) a x y _ _ rfl rfl (by rfl) (by rfl) (by simp [go_sem]) HS.out (Ext.alloc (Ext.setCell hM.2.1 (Nat.le_refl _) _) _) (World.ownsRow.alloc (ownsRow_mono (own_far hM.1 hM.2.2) HE.out.size) _) rfl (by rw [HJT.out]; have := HV.out.2.2.2.2; omega) ?_; intro p6 c6 W6 N6; rw [HJT.out] at N6 ⊢; have HN6 : Hid (Owns W (gs.take j ++ [a]) (.slice p6 (j + 1) c6) W6) := N6; clear N6 hM; have wk := WK.out) | (refine own_app2 eltV _ wr _ _ _ _ 0 a.l.length [] (a.l.flatMap cV) wr.heap.size rfl rfl (by rfl) (by rfl) (own_newAt (b := wr.heap.size + 1) wr _ (by simp) (Ext.sz (Ext.alloc (Ext.refl wr) _))) (HV.out.1.low (Below.mono (Ext.alloc (Ext.alloc (Ext.refl wr) _) _) HE.out.size)).row (cV_one a.l) (by unfold maxLen; have := HA2.out; omega) (by have := HA2.out; omega) (Ext.alloc (Ext.alloc (Ext.refl wr) _) _) (Nat.le_refl _) (Ext.sz (Ext.alloc (Ext.alloc (Ext.refl wr) _) _)) ?_; intro v' W' m1 m2 m3 m4; rw [Nat.zero_add, List.nil_append] at m1; obtain ⟨p5, c5, rfl, _⟩ := own_form m1; have BA : Blk W' wr.heap.size (.bool a.area) (.int .i64 x) (.int .i64 y) (.slice p' n' c') := Blk.grown (blk_top (by simp) ((Ext.refl _).alloc _)) m3 (by simp [Value.ownBlock]); have HM : Hid (W'.ownsRow wr.heap.size 26 4 (.slice p5 a.l.length c5) a.l.length (a.l.flatMap cV) ∧ Ext wr W' ∧ (Value.slice p5 a.l.length c5).ownBlock ≠ some wr.heap.size) := ⟨m1, m2, (by rcases m4 with m | m <;> (rw [m]; simp [Value.ownBlock] <;> omega))⟩; obtain ⟨d0z, ⟨d0_0, d0_1, d0_2, d0_3⟩, d0f0, d0f1, d0f2, d0f3⟩ := BA; clear m1 m2 m3 m4))
     go_roundw
     case rel => exact ⟨j + 1, _, _, by go_num, rfl, hj1, by rw [List.take_add_one, HV.out.2.1]; exact HN6.out⟩
     case measure => exact meas n j hj1 wk
   · have hltI : ¬ (j : Int) < (n : Int) := by omega
     have hjn : j = n := by omega
     subst hjn
     have H2 : Hid (Owns W gs (.slice pv j cv) wr) := by
       have h1 := HS.out
       rw [show gs.take j = gs from List.take_of_length_le (by have := HN.out.1; omega)] at h1
       exact h1
     clear hlt hj
     go_wp2_with fail
     go_ret
     exact ⟨_, _, rfl, H2.out.rd, H2.out.e⟩

open Go.ChangeShapes Go.WideShapes Go.RowKit
open Go.Joins (trod_struct4)
set_option maxHeartbeats 2000000

theorem weights_all {H : Type} {P : Program} {e : TypeId} : ∀ {l : List (DataW H)} {d : DataW H} {n : Nat}, d ∈ l → n ∈ d.weights P e → n ∈ DataW.weightsAll P e l
 | [], _, _, h, _ => by cases h
 | x :: l, d, n, h, hn => by
   rw [DataW.weightsAll, List.mem_append]
   rcases List.mem_cons.1 h with rfl | h
   · exact .inl hn
   · exact .inr (weights_all h hn)
theorem by_value : Tryd.prog.bytesOf 26 = 40 := by kernel_rfl
section
variable {H : Type} {enc : TypeId × Value → H} {w : World} {base : Nat} {sp : Nat → Bool} {hd : Bool}
theorem vals_len {fuel B : Nat} {c : Value} {x : DataW H × List MemPlace} {l : List Rw} (h : DataW.trod enc Tryd.prog w base sp hd fuel 36 [c] = some x) (hl : RdV B w c l) (hw : ∀ n ∈ x.1.weights Tryd.prog 36, n ≤ reachBytes) : l.length ≤ reachBytes := by
 obtain ⟨p, c', h1, _⟩ := hl
 rcases DataW.trod_slice Tryd.underlying36 h with ⟨e6, _⟩ | ⟨a, len, cap, elems, rest, n', hn', e6, hx, _, _, _, hel, _⟩
 · simp only [List.cons.injEq, and_true] at e6
   subst e6
   simp only [Value.slice.injEq] at h1
   omega
 · simp only [List.cons.injEq, and_true] at e6
   subst e6
   simp only [Value.slice.injEq] at h1
   subst hx
   have := hw ((elems.length + rest.length) * Tryd.prog.bytesOf 26) (by simp [DataW.weights, Tryd.underlying36])
   rw [by_value] at this
   omega
theorem list4 {α : Type} {cs : List α} (h : cs.length = 4) {v : α} (hv : some v = cs[3]?) : cs.drop 3 = [v] := by
 match cs, h with
 | [c0, c1, c2, c3], _ => simp at hv; subst hv; rfl
theorem args_len {fuel B : Nat} {c : Value} {x : DataW H × List MemPlace} {gs : List Ag} (h : DataW.trod enc Tryd.prog w base sp hd fuel 22 [c] = some x) (hA : RdA B w c gs) (hw : ∀ n ∈ x.1.weights Tryd.prog 22, n ≤ reachBytes) : ∀ a ∈ gs, a.l.length ≤ reachBytes := by
 intro a ha
 obtain ⟨i, hi, hai⟩ := List.mem_iff_getElem.1 ha
 obtain ⟨p, n, c', rfl, hn, _⟩ := hA.form
 obtain ⟨b, off, a', y, z, lv, rfl, ha', _, _, ⟨k0, k1, k2, k3⟩, hV⟩ := hA.at hi
 rw [List.getElem?_eq_getElem hi, hai] at ha'
 cases ha'
 rcases DataW.trod_slice Tryd.underlying22 h with ⟨e6, _⟩ | ⟨ad, len, cap, elems, rest, n', hn', e6, hx, _, _, _, hel, hall, _⟩
 · simp at e6
 · simp only [List.cons.injEq, and_true] at e6
   cases e6
   subst hx
   have hil : i < n := by omega
   have h0 := hall i hil
   rw [List.getElem?_eq_getElem (show i < elems.length by omega)] at h0
   obtain ⟨cs', h1, h2⟩ := Option.bind_eq_some_iff.1 h0
   obtain ⟨_, q1, q2⟩ := World.cells?_some h1
   rw [qc_arg] at q1 q2
   obtain ⟨y0, y1, y2, y3, m, hx3, _, _, _, _, h3⟩ := trod_struct4 Tryd.underlying42 h2
   simp [qc_vals] at h3
   have hc3 : cs'.drop 3 = [lv] := by
     have := q2 3 (by decide)
     rw [Addr.add_lit, Addr.add_lit, k3] at this
     exact list4 q1 this
   rw [hc3] at h3
   refine vals_len (by simpa using h3) hV (fun n hn => hw n ?_)
   simp only [DataW.weights, Tryd.underlying22]
   refine List.mem_cons_of_mem _ (List.mem_append_left _ (weights_all (d := elems[i].1) (List.mem_map.2 ⟨elems[i], List.getElem_mem _, rfl⟩) ?_))
   rw [hx3]
   simp only [DataW.weights, Tryd.underlying42]
   exact DataW.weights_mem_each (j := 3) rfl rfl n hn
end
end Go.Proofs.YtiahgalhemljnaaDoor
