/-
 Package fold: each.
 The contracts of package value's ToNum and of its operators, which are functions that are answered.
 The contract of package value's Arith.
 The contracts of package value's Arith, whatever the operator, and of the statements' look whether anything lives.
-/
import Derived.Test.YtiahgalhemljnaaGreatDoorV9
import Derived.Test.YtiahgalhemljnaaGreatDoorV8
import Derived.Deep.DeepCutAuto
import Derived.Deep.Light
namespace Go.Proofs.YtiahgalhemljnaaGreatDoor
open Go.RowKit
set_option maxHeartbeats 1000000

theorem wrap_1 (k : Nat) (h : k ≤ 1000000) : wrap64 ((k : Int) + 1) = ((k + 1 : Nat) : Int) := by unfold wrap64; omega
theorem meas (n j : Nat) (h : j + 1 ≤ n) (hw : wrap64 ((j : Int) + 1) = ((j + 1 : Nat) : Int)) : n - (intOf (.int .i64 (wrap64 ((j : Int) + 1)))).toNat < n - (intOf (.int .i64 (j : Int))).toNat := by
 rw [hw]
 show n - (((j + 1 : Nat) : Int)).toNat < n - ((j : Int)).toNat
 rw [Int.toNat_natCast, Int.toNat_natCast]
 omega
theorem seen_take {l : List Ag} {j : Nat} {a : Ag} (h : l[j]? = some a) : seen (l.take (j + 1)) = seen (l.take j) ++ seen1 a := by
 rw [List.take_add_one, h]
 show (l.take j ++ [a]).flatMap seen1 = _
 rw [List.flatMap_append]
 simp [seen]
theorem seen_le {l : List Ag} {j : Nat} {a : Ag} (h : l[j]? = some a) : (seen (l.take j)).length + (seen1 a).length ≤ (seen l).length := by
 have e : l = l.take j ++ a :: l.drop (j + 1) := by
   have h1 := List.drop_eq_getElem_cons (List.getElem?_eq_some_iff.1 h).1
   rw [(List.getElem?_eq_some_iff.1 h).2] at h1
   rw [← h1, List.take_append_drop]
 have : seen l = seen (l.take j) ++ (seen1 a ++ seen (l.drop (j + 1))) := by
   conv => lhs; rw [e]
   unfold seen
   rw [List.flatMap_append]
   rfl
 rw [this]; simp
set_option maxRecDepth 100000 in
theorem each_any (w0 : World) (hi : Nat) (gs : List Ag) (sv : Value) (Q : List (V × Bool) → World → Prop) (W : World) (p : Option Addr) (n c : Nat)
   (hA : RdA w0.heap.size W (.slice p n c) gs) (hI : AgI gs) (hlen : (seen gs).length ≤ 15000) (hal : gs.length ≤ 15000)
   (hF : FnC w0 hi sv encS okS Q) (hQ : Q [] W) (hh : hi ≤ W.heap.size) (hE : Ext w0 W) (hN : Nm w0) :
   Calls Tryz.prog 59 #[.slice p n c, sv] W fun e w' => e = .returned (.tuple #[]) ∧ Q (seen gs) w' ∧ Mid w0.heap.size hi W w' := by
 obtain ⟨K, cs, rfl, hent, hst, hca⟩ := hF
 have hn : n = gs.length := by obtain ⟨p', c', h1, _⟩ := hA; cases h1; rfl
 have HA : Hid (RdA w0.heap.size W (.slice p n c) gs) := hA
 have HI : Hid (AgI gs ∧ (seen gs).length ≤ 15000 ∧ n = gs.length ∧ n ≤ 15000) := ⟨hI, hlen, hn, by omega⟩
 have HS : Hid (∀ l W W', Q l W → hi ≤ W.heap.size → Env hi W W' → Q l W') := hst
 have HC : Hid (∀ l W x, Q l W → hi ≤ W.heap.size → Ext w0 W → l.length ≤ 20000 → okS x → Calls Tryz.prog K (encS x ++ cs) W fun e w' => e = .returned (.tuple #[]) ∧ Q (l ++ [x]) w' ∧ Mid w0.heap.size hi W w') := hca
 have HW : Hid (Ext w0 W ∧ Nm w0 ∧ hi ≤ W.heap.size) := ⟨hE, hN, hh⟩
 have HQ : Hid (Q [] W) := hQ
 clear hA hI hlen hal hst hca hE hN hQ hn hh
 go_enter Tryz.func59, Tryz.ntmps59
 go_wp2_with fail
 go_loopw [10] (fun iv wr => ∃ j : Nat, iv = .int .i64 (j : Int) ∧ j ≤ n ∧ Q (seen (gs.take j)) wr ∧ Mid w0.heap.size hi W wr) (fun iv _ => n - (intOf iv).toNat)
 case atStart => exact ⟨0, rfl, Nat.zero_le _, HQ.out, (Ext.refl W).mid HW.out.1.size hi⟩
 case round =>
   generalize wr = wo at hrel ⊢
   obtain ⟨j, rfl, hj, hq, hm⟩ := hrel
   have HO : Hid (Q (seen (gs.take j)) wo ∧ Mid w0.heap.size hi W wo ∧ Ext w0 wo ∧ hi ≤ wo.heap.size) := ⟨hq, hm, hm.ext HW.out.1, Nat.le_trans HW.out.2.2 hm.1.size⟩
   clear hq hm
   by_cases hlt : j < n
   · have hltI : (j : Int) < (n : Int) := by omega
     obtain ⟨b, off, a, x, y, lv, rfl, ha, hb, hbW, ⟨k0, k1, k2, k3⟩, hV⟩ := (HA.out.low HO.out.2.1.1).at (i := j) (by rw [← HI.out.2.2.1]; exact hlt)
     obtain ⟨p', n', c', rfl, hn', hc'⟩ := hV.form
     have HV : Hid (RdV w0.heap.size wo (.slice p' n' c') a.l ∧ gs[j]? = some a ∧ n' = a.l.length) := ⟨hV, ha, hn'⟩
     have WK : Hid (wrap64 ((j : Int) + 1) = ((j + 1 : Nat) : Int)) := wrap_1 j (by have := HI.out; omega)
     have HJ : Hid (j ≤ 15000) := by show _ ≤ _; have := HI.out; omega
     clear hV ha hn' hc' hb hlt
     cases har : a.area
     · rw [har] at k0
       have HT : Hid (seen (gs.take (j + 1)) = seen (gs.take j) ++ [(one1 a.l, false)]) := by show _ = _; rw [seen_take HV.out.2.1]; unfold seen1; rw [har]; rfl
       have HU : Hid ((one1 a.l).ok ∧ (seen (gs.take j)).length ≤ 15000) := by
         refine ⟨?_, ?_⟩
         · have := seen_ok gs HI.out.1 (one1 a.l, false) (List.mem_flatMap.2 ⟨a, List.mem_of_getElem? HV.out.2.1, by unfold seen1; rw [har]; simp⟩)
           exact this
         · have := seen_le HV.out.2.1; have := HI.out.2.1; omega
       clear har
       go_wp2_with fail
       refine (only_any a.l p' n' c' w0.heap.size _ (HW.out.2.1.ext (HO.out.2.2.1.alloc _)) (HV.out.1.low (((Below.refl _ _).alloc HO.out.2.2.1.size _)))).mono ?_
       rintro e w1 ⟨rfl, E1⟩
       have X1 : Hid (Ext wo w1) := ((Ext.refl _).alloc _).trans E1
       clear E1
       go_wp2_with fail
       refine (HC.out (seen (gs.take j)) _ (one1 a.l, false) (HS.out _ _ _ HO.out.1 HO.out.2.2.2 (X1.out.env HO.out.2.2.2)) (Nat.le_trans HO.out.2.2.2 X1.out.size) (HO.out.2.2.1.trans X1.out) (Nat.le_trans HU.out.2 (by decide)) HU.out.1).mono ?_
       rintro e w2 ⟨rfl, q2, m2⟩
       have H2 : Hid (Q (seen (gs.take (j + 1))) w2 ∧ Mid w0.heap.size hi W w2) := ⟨by rw [HT.out]; exact q2, HO.out.2.1.trans ((X1.out.mid HO.out.2.2.1.size hi).trans m2)⟩
       have hj1 : j + 1 ≤ n := by omega
       clear q2 m2
       have wk := WK.out
       go_wp2_with fail
       go_roundw
       case rel => exact ⟨j + 1, by go_num, hj1, H2.out.1, H2.out.2⟩
       case measure => exact meas n j hj1 wk
     · rw [har] at k0
       have HT : Hid (seen (gs.take (j + 1)) = seen (gs.take j) ++ a.l.map (fun r => (r.v, true))) := by show _ = _; rw [seen_take HV.out.2.1]; unfold seen1; rw [har]; rfl
       have HU : Hid ((∀ r ∈ a.l, r.v.ok) ∧ (seen (gs.take j)).length + a.l.length ≤ 15000) := by
         refine ⟨fun r hr => nm_ok _ _ _ _ (HI.out.1 a (List.mem_of_getElem? HV.out.2.1) r hr), ?_⟩
         have h1 := seen_le HV.out.2.1
         have h2 := HI.out.2.1
         have h3 : (seen1 a).length = a.l.length := by unfold seen1; rw [har]; simp
         omega
       clear har
       go_wp2_with fail
       go_loopw [25] (fun iv w3 => ∃ i : Nat, iv = .int .i64 (i : Int) ∧ i ≤ n' ∧ Q (seen (gs.take j) ++ (a.l.take i).map (fun r => (r.v, true))) w3 ∧ Mid w0.heap.size hi W w3 ∧ Mid w0.heap.size hi wo w3) (fun iv _ => n' - (intOf iv).toNat)
       case atStart =>
         have X1 : Ext wo (wo.alloc (.cells #[.bool true, .int .i64 x, .int .i64 y, .slice p' n' c'] 34)) := (Ext.refl _).alloc _
         refine ⟨0, rfl, Nat.zero_le _, ?_, HO.out.2.1.trans (X1.mid HO.out.2.2.1.size hi), X1.mid HO.out.2.2.1.size hi⟩
         simp only [List.take_zero, List.map_nil, List.append_nil]
         exact HS.out _ _ _ HO.out.1 HO.out.2.2.2 (X1.env HO.out.2.2.2)
       case round =>
         obtain ⟨i, rfl, hi', hq, hm, hm'⟩ := hrel
         have HP : Hid (Q (seen (gs.take j) ++ (a.l.take i).map (fun r => (r.v, true))) wr ∧ Mid w0.heap.size hi W wr ∧ Ext w0 wr ∧ hi ≤ wr.heap.size ∧ Mid w0.heap.size hi wo wr) := ⟨hq, hm, hm.ext HW.out.1, Nat.le_trans HW.out.2.2 hm.1.size, hm'⟩
         clear hq hm hm' k0 k1 k2 k3 hbW
         by_cases hlt : i < n'
         · have hltJ : (i : Int) < (n' : Int) := by omega
           obtain ⟨b', off', r, rfl, hr, hb', hbW', k0, k1, k2, k3⟩ := (HV.out.1.low HP.out.2.2.2.2.1).at (i := i) (by rw [← HV.out.2.2]; exact hlt)
           have WI : Hid (wrap64 ((i : Int) + 1) = ((i + 1 : Nat) : Int)) := wrap_1 i (by have := HU.out.2; have := HV.out.2.2; omega)
           have HR : Hid (a.l[i]? = some r ∧ r.v.ok ∧ (seen (gs.take j) ++ (a.l.take i).map (fun r => (r.v, true))).length ≤ 15000) := ⟨hr, HU.out.1 r (List.mem_of_getElem? hr), by simp; have := HU.out.2; omega⟩
           have HT2 : Hid ((seen (gs.take j) ++ (a.l.take i).map (fun r => (r.v, true))) ++ [(r.v, true)] = seen (gs.take j) ++ (a.l.take (i + 1)).map (fun r => (r.v, true))) := by
             show _ = _
             rw [List.take_add_one, hr, List.map_append, List.append_assoc]; rfl
           have cN := fun W h => vnormal_any r.k r.n r.s r.e W h
           clear hr hb' hlt
           go_wp2_with fail
           refine (cN _ (HW.out.2.1.ext (HP.out.2.2.1.alloc _))).mono ?_
           rintro e w1 ⟨rfl, E1⟩
           have X1 : Hid (Ext wr w1) := ((Ext.refl _).alloc _).trans E1
           clear E1
           go_wp2_with fail
           refine (HC.out _ _ (r.v, true) (HS.out _ _ _ HP.out.1 HP.out.2.2.2.1 (X1.out.env HP.out.2.2.2.1)) (Nat.le_trans HP.out.2.2.2.1 X1.out.size) (HP.out.2.2.1.trans X1.out) (Nat.le_trans HR.out.2.2 (by decide)) HR.out.2.1).mono ?_
           rintro e w2 ⟨rfl, q2, m2⟩
           have M2 : Mid w0.heap.size hi wr w2 := (X1.out.mid HP.out.2.2.1.size hi).trans m2
           have H2 : Hid (Q (seen (gs.take j) ++ (a.l.take (i + 1)).map (fun r => (r.v, true))) w2 ∧ Mid w0.heap.size hi W w2 ∧ Mid w0.heap.size hi wo w2) := ⟨by rw [← HT2.out]; exact q2, HP.out.2.1.trans M2, HP.out.2.2.2.2.trans M2⟩
           have hi1 : i + 1 ≤ n' := by omega
           clear q2 m2 M2
           have wi := WI.out
           go_wp2_with fail
           go_roundw
           case rel => exact ⟨i + 1, by go_num, hi1, H2.out⟩
           case measure => exact meas n' i hi1 wi
         · have hltJ : ¬ (i : Int) < (n' : Int) := by omega
           have H2 : Hid (Q (seen (gs.take (j + 1))) wr ∧ Mid w0.heap.size hi W wr) := by
             refine ⟨?_, HP.out.2.1⟩
             have h1 := HP.out.1
             have h2 := HV.out.2.2
             rw [show a.l.take i = a.l from List.take_of_length_le (by omega)] at h1
             rw [HT.out]; exact h1
           have hj1 : j + 1 ≤ n := by omega
           clear hlt
           have wk := WK.out
           go_wp2_with fail
           go_roundw
           case rel => exact ⟨j + 1, by go_num, hj1, H2.out⟩
           case measure => exact meas n j hj1 wk
   · have hltI : ¬ (j : Int) < (n : Int) := by omega
     have H2 : Hid (Q (seen gs) wo ∧ Mid w0.heap.size hi W wo) := by
       refine ⟨?_, HO.out.2.1⟩
       have h1 := HO.out.1
       have h2 := HI.out.2.2.1
       rw [show gs.take j = gs from List.take_of_length_le (by omega)] at h1
       exact h1
     clear hlt
     go_wp2_with fail
     go_end0
     exact ⟨rfl, H2.out⟩

open Go.RowKit
set_option maxHeartbeats 1000000

theorem numK_cases (s : ByteArray) : (numK s = true ∧ numR s = readV s) ∨ (numK s = false ∧ readV s = .err 2) := by
 unfold numK numR readV
 rcases rdK_cases s.data.toList with h | h | h <;> rw [h]
 · exact .inr ⟨rfl, rfl⟩
 · exact .inl ⟨rfl, rfl⟩
 · exact .inl ⟨rfl, rfl⟩
theorem vtonum_any (k n : Int) (s : ByteArray) (e : Int) (w : World) (hn : I64 n) (hN : Nm w) :
   Calls Tryz.prog 83 #[.agg #[.int .i64 k, .int .i64 n, .string s, .int .i64 e]] w fun r w' => r = .returned ((nm k n s e).toNum.dat) ∧ Ext w w' := by
 have c0 := fun W h => vnormal_any k n s e W h
 have ok := nm_ok k n s e hn
 clear hn
 generalize nm k n s e = v at c0 ok ⊢
 cases v with
 | blank =>
   simp only [V.dat] at c0
   have c1 := fun W h => vnum_any 0 W h
   rw [mkNum_is (by decide)] at c1
   simp only [V.dat] at c1
   clear ok
   go_enter Tryz.func83, Tryz.ntmps83
   go_wp2_with fail
   refine (c0 _ (hN.ext (by with_reducible repeat (first | assumption | exact Ext.refl _ | apply Ext.alloc | apply Ext.drewN | (refine Ext.setCell ?_ (by simp) _))))).mono ?_
   rintro r w1 ⟨rfl, E1⟩
   have X1 : Ext w w1 := Ext.trans (by with_reducible repeat (first | assumption | exact Ext.refl _ | apply Ext.alloc | apply Ext.drewN | (refine Ext.setCell ?_ (by simp) _))) E1
   have B0_1 := blk_top (b := w.heap.size) (by simp) (((Ext.refl _).alloc _).trans E1)
   have B1_1 := blk_top (b := w.heap.size + 1) (by simp) E1
   have D0 := B0_1
   obtain ⟨b0z, ⟨b0_0, b0_1, b0_2, b0_3⟩, b0f0, b0f1, b0f2, b0f3⟩ := D0
   have D1 := B1_1
   obtain ⟨b1z, ⟨b1_0, b1_1, b1_2, b1_3⟩, b1f0, b1f1, b1f2, b1f3⟩ := D1
   go_wp2_with fail
   refine (c1 _ (hN.ext (by with_reducible repeat (first | assumption | exact Ext.refl _ | apply Ext.alloc | apply Ext.drewN | (refine Ext.setCell ?_ (by simp) _))))).mono ?_
   rintro r w2 ⟨rfl, E2⟩
   have X2 : Ext w w2 := Ext.trans (by with_reducible repeat (first | assumption | exact Ext.refl _ | apply Ext.alloc | apply Ext.drewN | (refine Ext.setCell ?_ (by simp) _))) E2
   have B1_2 := (B1_1.far (c := w.heap.size) (by simp) _ _ _ _).ext E2
   have D1 := B1_2
   obtain ⟨b1z, ⟨b1_0, b1_1, b1_2, b1_3⟩, b1f0, b1f1, b1f2, b1f3⟩ := D1
   go_wp2_with fail
   exact finB (B1_2.set _ _ _ _) rfl (by with_reducible repeat (first | assumption | exact Ext.refl _ | apply Ext.alloc | apply Ext.drewN | (refine Ext.setCell ?_ (by simp) _))) (fun g0 g1 g2 g3 => by simp [results, Tryz.results83, go_sem, g0, g1, g2, g3]) (fun h => ⟨rfl, h⟩)
 | tf b =>
   simp only [V.dat] at c0
   cases b with
   | false =>
     simp only [Bool.false_eq_true, if_false] at c0
     have c1 := fun W h => vnum_any 0 W h
     rw [mkNum_is (by decide)] at c1
     simp only [V.dat] at c1
     clear ok
     go_enter Tryz.func83, Tryz.ntmps83
     go_wp2_with fail
     refine (c0 _ (hN.ext (by with_reducible repeat (first | assumption | exact Ext.refl _ | apply Ext.alloc | apply Ext.drewN | (refine Ext.setCell ?_ (by simp) _))))).mono ?_
     rintro r w1 ⟨rfl, E1⟩
     have X1 : Ext w w1 := Ext.trans (by with_reducible repeat (first | assumption | exact Ext.refl _ | apply Ext.alloc | apply Ext.drewN | (refine Ext.setCell ?_ (by simp) _))) E1
     have B0_1 := blk_top (b := w.heap.size) (by simp) (((Ext.refl _).alloc _).trans E1)
     have B1_1 := blk_top (b := w.heap.size + 1) (by simp) E1
     have D0 := B0_1
     obtain ⟨b0z, ⟨b0_0, b0_1, b0_2, b0_3⟩, b0f0, b0f1, b0f2, b0f3⟩ := D0
     have D1 := B1_1
     obtain ⟨b1z, ⟨b1_0, b1_1, b1_2, b1_3⟩, b1f0, b1f1, b1f2, b1f3⟩ := D1
     go_wp2_with fail
     refine (c1 _ (hN.ext (by with_reducible repeat (first | assumption | exact Ext.refl _ | apply Ext.alloc | apply Ext.drewN | (refine Ext.setCell ?_ (by simp) _))))).mono ?_
     rintro r w2 ⟨rfl, E2⟩
     have X2 : Ext w w2 := Ext.trans (by with_reducible repeat (first | assumption | exact Ext.refl _ | apply Ext.alloc | apply Ext.drewN | (refine Ext.setCell ?_ (by simp) _))) E2
     have B1_2 := (B1_1.far (c := w.heap.size) (by simp) _ _ _ _).ext E2
     have D1 := B1_2
     obtain ⟨b1z, ⟨b1_0, b1_1, b1_2, b1_3⟩, b1f0, b1f1, b1f2, b1f3⟩ := D1
     go_wp2_with fail
     exact finB (B1_2.set _ _ _ _) rfl (by with_reducible repeat (first | assumption | exact Ext.refl _ | apply Ext.alloc | apply Ext.drewN | (refine Ext.setCell ?_ (by simp) _))) (fun g0 g1 g2 g3 => by simp [results, Tryz.results83, go_sem, g0, g1, g2, g3]) (fun h => ⟨rfl, h⟩)
   | true =>
     simp only [if_true] at c0
     have c1 := fun W h => vnum_any 10000 W h
     rw [mkNum_is (by decide)] at c1
     simp only [V.dat] at c1
     clear ok
     go_enter Tryz.func83, Tryz.ntmps83
     go_wp2_with fail
     refine (c0 _ (hN.ext (by with_reducible repeat (first | assumption | exact Ext.refl _ | apply Ext.alloc | apply Ext.drewN | (refine Ext.setCell ?_ (by simp) _))))).mono ?_
     rintro r w1 ⟨rfl, E1⟩
     have X1 : Ext w w1 := Ext.trans (by with_reducible repeat (first | assumption | exact Ext.refl _ | apply Ext.alloc | apply Ext.drewN | (refine Ext.setCell ?_ (by simp) _))) E1
     have B0_1 := blk_top (b := w.heap.size) (by simp) (((Ext.refl _).alloc _).trans E1)
     have B1_1 := blk_top (b := w.heap.size + 1) (by simp) E1
     have D0 := B0_1
     obtain ⟨b0z, ⟨b0_0, b0_1, b0_2, b0_3⟩, b0f0, b0f1, b0f2, b0f3⟩ := D0
     have D1 := B1_1
     obtain ⟨b1z, ⟨b1_0, b1_1, b1_2, b1_3⟩, b1f0, b1f1, b1f2, b1f3⟩ := D1
     go_wp2_with fail
     refine (c1 _ (hN.ext (by with_reducible repeat (first | assumption | exact Ext.refl _ | apply Ext.alloc | apply Ext.drewN | (refine Ext.setCell ?_ (by simp) _))))).mono ?_
     rintro r w2 ⟨rfl, E2⟩
     have X2 : Ext w w2 := Ext.trans (by with_reducible repeat (first | assumption | exact Ext.refl _ | apply Ext.alloc | apply Ext.drewN | (refine Ext.setCell ?_ (by simp) _))) E2
     have B1_2 := (B1_1.far (c := w.heap.size) (by simp) _ _ _ _).ext E2
     have D1 := B1_2
     obtain ⟨b1z, ⟨b1_0, b1_1, b1_2, b1_3⟩, b1f0, b1f1, b1f2, b1f3⟩ := D1
     go_wp2_with fail
     exact finB (B1_2.set _ _ _ _) rfl (by with_reducible repeat (first | assumption | exact Ext.refl _ | apply Ext.alloc | apply Ext.drewN | (refine Ext.setCell ?_ (by simp) _))) (fun g0 g1 g2 g3 => by simp [results, Tryz.results83, go_sem, g0, g1, g2, g3]) (fun h => ⟨rfl, h⟩)
 | num n =>
   simp only [V.dat] at c0
   have c1 := fun W h => vnum_any n W h
   rw [mkNum_is ok.2] at c1
   simp only [V.dat] at c1
   clear ok
   go_enter Tryz.func83, Tryz.ntmps83
   go_wp2_with fail
   refine (c0 _ (hN.ext (by with_reducible repeat (first | assumption | exact Ext.refl _ | apply Ext.alloc | apply Ext.drewN | (refine Ext.setCell ?_ (by simp) _))))).mono ?_
   rintro r w1 ⟨rfl, E1⟩
   have X1 : Ext w w1 := Ext.trans (by with_reducible repeat (first | assumption | exact Ext.refl _ | apply Ext.alloc | apply Ext.drewN | (refine Ext.setCell ?_ (by simp) _))) E1
   have B0_1 := blk_top (b := w.heap.size) (by simp) (((Ext.refl _).alloc _).trans E1)
   have B1_1 := blk_top (b := w.heap.size + 1) (by simp) E1
   have D0 := B0_1
   obtain ⟨b0z, ⟨b0_0, b0_1, b0_2, b0_3⟩, b0f0, b0f1, b0f2, b0f3⟩ := D0
   have D1 := B1_1
   obtain ⟨b1z, ⟨b1_0, b1_1, b1_2, b1_3⟩, b1f0, b1f1, b1f2, b1f3⟩ := D1
   go_wp2_with fail
   refine (c1 _ (hN.ext (by with_reducible repeat (first | assumption | exact Ext.refl _ | apply Ext.alloc | apply Ext.drewN | (refine Ext.setCell ?_ (by simp) _))))).mono ?_
   rintro r w2 ⟨rfl, E2⟩
   have X2 : Ext w w2 := Ext.trans (by with_reducible repeat (first | assumption | exact Ext.refl _ | apply Ext.alloc | apply Ext.drewN | (refine Ext.setCell ?_ (by simp) _))) E2
   have B1_2 := (B1_1.far (c := w.heap.size) (by simp) _ _ _ _).ext E2
   have D1 := B1_2
   obtain ⟨b1z, ⟨b1_0, b1_1, b1_2, b1_3⟩, b1f0, b1f1, b1f2, b1f3⟩ := D1
   go_wp2_with fail
   exact finB (B1_2.set _ _ _ _) rfl (by with_reducible repeat (first | assumption | exact Ext.refl _ | apply Ext.alloc | apply Ext.drewN | (refine Ext.setCell ?_ (by simp) _))) (fun g0 g1 g2 g3 => by simp [results, Tryz.results83, go_sem, g0, g1, g2, g3]) (fun h => ⟨rfl, h⟩)
 | text s =>
   simp only [V.dat] at c0
   have c1 := fun W h => numeral_any s W (Nat.le_trans ok (by decide)) h
   have c2 := fun W h => err_any 2 W h
   rw [mkErr_is ⟨by decide, by decide⟩] at c2
   simp only [V.dat] at c2
   have hk := numK_cases s
   clear ok
   rcases hk with ⟨h1, h2⟩ | ⟨h1, h2⟩
   · rw [h1] at c1
     obtain ⟨q0, q1, q2, q3, hq⟩ := dat4 (numR s)
     rw [hq] at c1
     have H : Hid ((V.text s).toNum.dat = .agg #[.int .i64 q0, .int .i64 q1, .string q2, .int .i64 q3]) := by show (readV s).dat = _; rw [← h2]; exact hq
     clear hq h1 h2 c2
     go_enter Tryz.func83, Tryz.ntmps83
     go_wp2_with fail
     refine (c0 _ (hN.ext (by with_reducible repeat (first | assumption | exact Ext.refl _ | apply Ext.alloc | apply Ext.drewN | (refine Ext.setCell ?_ (by simp) _))))).mono ?_
     rintro r w1 ⟨rfl, E1⟩
     have X1 : Ext w w1 := Ext.trans (by with_reducible repeat (first | assumption | exact Ext.refl _ | apply Ext.alloc | apply Ext.drewN | (refine Ext.setCell ?_ (by simp) _))) E1
     have B0_1 := blk_top (b := w.heap.size) (by simp) (((Ext.refl _).alloc _).trans E1)
     have B1_1 := blk_top (b := w.heap.size + 1) (by simp) E1
     have D0 := B0_1
     obtain ⟨b0z, ⟨b0_0, b0_1, b0_2, b0_3⟩, b0f0, b0f1, b0f2, b0f3⟩ := D0
     have D1 := B1_1
     obtain ⟨b1z, ⟨b1_0, b1_1, b1_2, b1_3⟩, b1f0, b1f1, b1f2, b1f3⟩ := D1
     go_wp2_with fail
     refine (c1 _ (hN.ext (by with_reducible repeat (first | assumption | exact Ext.refl _ | apply Ext.alloc | apply Ext.drewN | (refine Ext.setCell ?_ (by simp) _))))).mono ?_
     rintro r w2 ⟨rfl, E2⟩
     have X2 : Ext w w2 := Ext.trans (by with_reducible repeat (first | assumption | exact Ext.refl _ | apply Ext.alloc | apply Ext.drewN | (refine Ext.setCell ?_ (by simp) _))) E2
     have B1_2 := (B1_1.far (c := w.heap.size) (by simp) _ _ _ _).ext E2
     have D1 := B1_2
     obtain ⟨b1z, ⟨b1_0, b1_1, b1_2, b1_3⟩, b1f0, b1f1, b1f2, b1f3⟩ := D1
     go_wp2_with fail
     exact finB ((B1_2.set _ _ _ _).ext ((Ext.refl _).alloc _)) rfl (by with_reducible repeat (first | assumption | exact Ext.refl _ | apply Ext.alloc | apply Ext.drewN | (refine Ext.setCell ?_ (by simp) _))) (fun g0 g1 g2 g3 => by simp [results, Tryz.results83, go_sem, g0, g1, g2, g3]) (fun h => ⟨by rw [H.out], h⟩)
   · rw [h1] at c1
     obtain ⟨q0, q1, q2, q3, hq⟩ := dat4 (numR s)
     rw [hq] at c1
     have H : Hid ((V.text s).toNum = .err 2) := h2
     clear hq h1 h2
     go_enter Tryz.func83, Tryz.ntmps83
     go_wp2_with fail
     refine (c0 _ (hN.ext (by with_reducible repeat (first | assumption | exact Ext.refl _ | apply Ext.alloc | apply Ext.drewN | (refine Ext.setCell ?_ (by simp) _))))).mono ?_
     rintro r w1 ⟨rfl, E1⟩
     have X1 : Ext w w1 := Ext.trans (by with_reducible repeat (first | assumption | exact Ext.refl _ | apply Ext.alloc | apply Ext.drewN | (refine Ext.setCell ?_ (by simp) _))) E1
     have B0_1 := blk_top (b := w.heap.size) (by simp) (((Ext.refl _).alloc _).trans E1)
     have B1_1 := blk_top (b := w.heap.size + 1) (by simp) E1
     have D0 := B0_1
     obtain ⟨b0z, ⟨b0_0, b0_1, b0_2, b0_3⟩, b0f0, b0f1, b0f2, b0f3⟩ := D0
     have D1 := B1_1
     obtain ⟨b1z, ⟨b1_0, b1_1, b1_2, b1_3⟩, b1f0, b1f1, b1f2, b1f3⟩ := D1
     go_wp2_with fail
     refine (c1 _ (hN.ext (by with_reducible repeat (first | assumption | exact Ext.refl _ | apply Ext.alloc | apply Ext.drewN | (refine Ext.setCell ?_ (by simp) _))))).mono ?_
     rintro r w2 ⟨rfl, E2⟩
     have X2 : Ext w w2 := Ext.trans (by with_reducible repeat (first | assumption | exact Ext.refl _ | apply Ext.alloc | apply Ext.drewN | (refine Ext.setCell ?_ (by simp) _))) E2
     have B1_2 := (B1_1.far (c := w.heap.size) (by simp) _ _ _ _).ext E2
     have D1 := B1_2
     obtain ⟨b1z, ⟨b1_0, b1_1, b1_2, b1_3⟩, b1f0, b1f1, b1f2, b1f3⟩ := D1
     go_wp2_with fail
     refine (c2 _ (hN.ext (by with_reducible repeat (first | assumption | exact Ext.refl _ | apply Ext.alloc | apply Ext.drewN | (refine Ext.setCell ?_ (by simp) _))))).mono ?_
     rintro r w3 ⟨rfl, E3⟩
     have X3 : Ext w w3 := Ext.trans (by with_reducible repeat (first | assumption | exact Ext.refl _ | apply Ext.alloc | apply Ext.drewN | (refine Ext.setCell ?_ (by simp) _))) E3
     have B1_3 := (B1_2.ext ((Ext.refl _).alloc _)).ext E3
     have D1 := B1_3
     obtain ⟨b1z, ⟨b1_0, b1_1, b1_2, b1_3⟩, b1f0, b1f1, b1f2, b1f3⟩ := D1
     go_wp2_with fail
     exact finB (B1_3.set _ _ _ _) rfl (by with_reducible repeat (first | assumption | exact Ext.refl _ | apply Ext.alloc | apply Ext.drewN | (refine Ext.setCell ?_ (by simp) _))) (fun g0 g1 g2 g3 => by simp [results, Tryz.results83, go_sem, g0, g1, g2, g3]) (fun h => ⟨by rw [H.out]; rfl, h⟩)
 | err e =>
   simp only [V.dat] at c0
   clear ok
   go_enter Tryz.func83, Tryz.ntmps83
   go_wp2_with fail
   refine (c0 _ (hN.ext (by with_reducible repeat (first | assumption | exact Ext.refl _ | apply Ext.alloc | apply Ext.drewN | (refine Ext.setCell ?_ (by simp) _))))).mono ?_
   rintro r w1 ⟨rfl, E1⟩
   have X1 : Ext w w1 := Ext.trans (by with_reducible repeat (first | assumption | exact Ext.refl _ | apply Ext.alloc | apply Ext.drewN | (refine Ext.setCell ?_ (by simp) _))) E1
   have B0_1 := blk_top (b := w.heap.size) (by simp) (((Ext.refl _).alloc _).trans E1)
   have B1_1 := blk_top (b := w.heap.size + 1) (by simp) E1
   have D0 := B0_1
   obtain ⟨b0z, ⟨b0_0, b0_1, b0_2, b0_3⟩, b0f0, b0f1, b0f2, b0f3⟩ := D0
   have D1 := B1_1
   obtain ⟨b1z, ⟨b1_0, b1_1, b1_2, b1_3⟩, b1f0, b1f1, b1f2, b1f3⟩ := D1
   go_wp2_with fail
   exact finB ((B1_1.far (c := w.heap.size) (by simp) _ _ _ _).set _ _ _ _) rfl (by with_reducible repeat (first | assumption | exact Ext.refl _ | apply Ext.alloc | apply Ext.drewN | (refine Ext.setCell ?_ (by simp) _))) (fun g0 g1 g2 g3 => by simp [results, Tryz.results83, go_sem, g0, g1, g2, g3]) (fun h => ⟨rfl, h⟩)
/-- From block lo on nothing has turned. -/
def Same (lo : Nat) (w W : World) : Prop := w.heap.size ≤ W.heap.size ∧ ∀ b o, lo ≤ b → b < w.heap.size → W.cell? ⟨b, o, none⟩ = w.cell? ⟨b, o, none⟩
theorem Same.refl (lo : Nat) (w : World) : Same lo w w := ⟨Nat.le_refl _, fun _ _ _ _ => rfl⟩
theorem Same.ext {lo : Nat} {w W W' : World} (h : Same lo w W) (e : Ext W W') : Same lo w W' := ⟨Nat.le_trans h.1 e.sz, fun b o hl hb => (e.cell.1 b o (Nat.lt_of_lt_of_le hb h.1)).trans (h.2 b o hl hb)⟩
theorem Same.set {lo : Nat} {w W : World} {p : Addr} {v : Value} (h : Same lo w W) (hc : p.block < lo) : Same lo w (W.setCell p v) := by
 refine ⟨by simpa [World.setCell] using h.1, fun b o hl hb => ?_⟩
 rw [World.cell?_setCell_far _ _ _ _ (by show p.block ≠ b; omega)]
 exact h.2 b o hl hb
theorem Same.al {lo : Nat} {w W : World} (o : Obj) (h : Same lo w W) : Same lo w (W.alloc o) := h.ext ((Ext.refl _).alloc _)
theorem Same.dr {lo : Nat} {w W : World} (h : Same lo w W) : Same lo w W.drew := h.ext ((Ext.refl _).drew)

open Go.RowKit
set_option maxHeartbeats 1000000

/-! ### Which of two -/

open Go.RowKit
set_option maxHeartbeats 1000000

end Go.Proofs.YtiahgalhemljnaaGreatDoor
