/-
 The document's functions of many values: Call of AND, OR, CONCAT.
 The laws of layer 13: fits, own.
 Arguments: how long lists can be: by the form's own reach.
 From a list that lays the errors' names to their cells. No condition.
-/
import Derived.Test.YtiahgalhemljnaaGreatDoorV18
import Derived.Test.YtiahgalhemljnaaGreatDoorV17
import Derived.Test.YtiahgalhemljnaaGreatDoorV15
import Derived.SizedLaws
import Derived.Test.YtiahgalhemljnaaGreatDoorV8
import Derived.Test.YtiahgalhemljnaaGreatDoorRows
import Derived.ProofKit
import Derived.OpenShut
import Derived.Deep.DeepHandedRow
import Derived.Stop.LaidErr
import Derived.Lib.LaidTab
import Derived.Lib.SmallJoins
import Derived.MakeChecks
namespace Go.Proofs.YtiahgalhemljnaaGreatDoor
open Go.RowKit
set_option maxHeartbeats 1000000

theorem and_is (gs : List Ag) : fTruth (if true then ((noN (seen gs) : Int) == 0) else decide ((yesN (seen gs) : Int) > 0)) gs = fAnd gs := by
 unfold fAnd
 congr 1
 have h1 := truN_le (got truF (seen gs))
 have e : (noN (seen gs) : Int) = ((got truF (seen gs)).length - truN (got truF (seen gs)) : Nat) := rfl
 show ((noN (seen gs) : Int) == 0) = _
 rw [e]
 by_cases h : truN (got truF (seen gs)) = (got truF (seen gs)).length
 · rw [decide_eq_true h]; simp; omega
 · rw [decide_eq_false h]; simp; omega
theorem or_is (gs : List Ag) : fTruth (if false then ((noN (seen gs) : Int) == 0) else decide ((yesN (seen gs) : Int) > 0)) gs = fOr gs := by
 unfold fOr
 congr 1
 show decide ((yesN (seen gs) : Int) > 0) = _
 have e : (yesN (seen gs) : Int) = (truN (got truF (seen gs)) : Nat) := rfl
 rw [e]
 by_cases h : 0 < truN (got truF (seen gs))
 · rw [decide_eq_true h]; simp; omega
 · rw [decide_eq_false h]; simp; omega

set_option maxRecDepth 100000 in
theorem rcall_and (gs : List Ag) (W : World) (p : Option Addr) (n c : Nat) (hF : Fit W (.slice p n c) gs) :
   Calls Tryz.prog 9 #[.string ⟨#[65, 78, 68]⟩, .slice p n c] W fun e w' => e = .returned (fAnd gs).dat ∧ Ext W w' := by
 have CT : Hid (∀ V, Ext W V → Calls Tryz.prog 19 #[.slice p n c] V fun e w' => ∃ ov, e = .returned (.tuple #[ov, (bad numF (seen gs)).dat]) ∧ w'.ownsRow V.heap.size 2 1 ov (got numF (seen gs)).length ((got numF (seen gs)).flatMap cI) ∧ Ext V w') := fun V e => numbers_any13 gs p n c V (hF.ext e)
 have CX : Hid (∀ V, Ext W V → Calls Tryz.prog 21 #[.string ⟨#[65, 78, 68]⟩, .slice p n c] V fun e w' => e = .returned (fAnd gs).dat ∧ Ext V w') := fun V e => rtruth_any gs _ true rfl _ (and_is gs) p n c V (hF.ext e)
 obtain ⟨q0, q1, q2, q3, hq⟩ := dat4 (fAnd gs)
 rw [hq] at CX ⊢
 rw [dat_eq (bad numF (seen gs))] at CT
 generalize (bad numF (seen gs)).k = zk at *
 generalize (bad numF (seen gs)).n = zn at *
 generalize (bad numF (seen gs)).s = zs' at *
 generalize (bad numF (seen gs)).e = ze at *
 clear hq hF
 go_enter Tryz.func9, Tryz.ntmps9
 go_wp2_with fail
 refine (CT.out _ ((Ext.refl _).alloc _)).mono ?_
 rintro e w1 ⟨ov, rfl, O1, E1⟩
 obtain ⟨pv, cv, rfl, _⟩ := own_form O1
 have X1 : Hid (Ext W w1) := ((Ext.refl _).alloc _).trans E1
 have HB1 : Hid (Blk w1 W.heap.size (.int .i64 0) (.int .i64 0) (.string ⟨#[]⟩) (.int .i64 0)) := blk_top (by simp) E1
 obtain ⟨c0z, ⟨c0_0, c0_1, c0_2, c0_3⟩, c0f0, c0f1, c0f2, c0f3⟩ := HB1.out
 clear E1 O1
 go_wp2_with fail
 refine (CX.out _ (X1.out.alloc _)).mono ?_
 rintro e w2 ⟨rfl, E2⟩
 have X2 : Hid (Ext W w2) := (X1.out.alloc _).trans E2
 have HB2 : Hid (Blk w2 W.heap.size (.int .i64 0) (.int .i64 0) (.string ⟨#[]⟩) (.int .i64 0)) := (HB1.out.al _).ext E2
 clear c0z c0_0 c0_1 c0_2 c0_3 c0f0 c0f1 c0f2 c0f3 E2
 obtain ⟨c0z, ⟨c0_0, c0_1, c0_2, c0_3⟩, c0f0, c0f1, c0f2, c0f3⟩ := HB2.out
 go_wp2_with fail
 exact finB (HB2.out.set _ _ _ _) rfl ((((X2.out.setCell (by simp) _).setCell (by simp) _).setCell (by simp) _).setCell (by simp) _) (fun g0 g1 g2 g3 => by simp [results, Tryz.results9, go_sem, g0, g1, g2, g3]) (fun h => ⟨rfl, h⟩)
set_option maxRecDepth 100000 in
theorem rcall_or (gs : List Ag) (W : World) (p : Option Addr) (n c : Nat) (hF : Fit W (.slice p n c) gs) :
   Calls Tryz.prog 9 #[.string ⟨#[79, 82]⟩, .slice p n c] W fun e w' => e = .returned (fOr gs).dat ∧ Ext W w' := by
 have CT : Hid (∀ V, Ext W V → Calls Tryz.prog 19 #[.slice p n c] V fun e w' => ∃ ov, e = .returned (.tuple #[ov, (bad numF (seen gs)).dat]) ∧ w'.ownsRow V.heap.size 2 1 ov (got numF (seen gs)).length ((got numF (seen gs)).flatMap cI) ∧ Ext V w') := fun V e => numbers_any13 gs p n c V (hF.ext e)
 have CX : Hid (∀ V, Ext W V → Calls Tryz.prog 21 #[.string ⟨#[79, 82]⟩, .slice p n c] V fun e w' => e = .returned (fOr gs).dat ∧ Ext V w') := fun V e => rtruth_any gs _ false rfl _ (or_is gs) p n c V (hF.ext e)
 obtain ⟨q0, q1, q2, q3, hq⟩ := dat4 (fOr gs)
 rw [hq] at CX ⊢
 rw [dat_eq (bad numF (seen gs))] at CT
 generalize (bad numF (seen gs)).k = zk at *
 generalize (bad numF (seen gs)).n = zn at *
 generalize (bad numF (seen gs)).s = zs' at *
 generalize (bad numF (seen gs)).e = ze at *
 clear hq hF
 go_enter Tryz.func9, Tryz.ntmps9
 go_wp2_with fail
 refine (CT.out _ ((Ext.refl _).alloc _)).mono ?_
 rintro e w1 ⟨ov, rfl, O1, E1⟩
 obtain ⟨pv, cv, rfl, _⟩ := own_form O1
 have X1 : Hid (Ext W w1) := ((Ext.refl _).alloc _).trans E1
 have HB1 : Hid (Blk w1 W.heap.size (.int .i64 0) (.int .i64 0) (.string ⟨#[]⟩) (.int .i64 0)) := blk_top (by simp) E1
 obtain ⟨c0z, ⟨c0_0, c0_1, c0_2, c0_3⟩, c0f0, c0f1, c0f2, c0f3⟩ := HB1.out
 clear E1 O1
 go_wp2_with fail
 refine (CX.out _ (X1.out.alloc _)).mono ?_
 rintro e w2 ⟨rfl, E2⟩
 have X2 : Hid (Ext W w2) := (X1.out.alloc _).trans E2
 have HB2 : Hid (Blk w2 W.heap.size (.int .i64 0) (.int .i64 0) (.string ⟨#[]⟩) (.int .i64 0)) := (HB1.out.al _).ext E2
 clear c0z c0_0 c0_1 c0_2 c0_3 c0f0 c0f1 c0f2 c0f3 E2
 obtain ⟨c0z, ⟨c0_0, c0_1, c0_2, c0_3⟩, c0f0, c0f1, c0f2, c0f3⟩ := HB2.out
 go_wp2_with fail
 exact finB (HB2.out.set _ _ _ _) rfl ((((X2.out.setCell (by simp) _).setCell (by simp) _).setCell (by simp) _).setCell (by simp) _) (fun g0 g1 g2 g3 => by simp [results, Tryz.results9, go_sem, g0, g1, g2, g3]) (fun h => ⟨rfl, h⟩)
set_option maxRecDepth 100000 in
theorem rcall_cat (gs : List Ag) (W : World) (p : Option Addr) (n c : Nat) (hF : Fit W (.slice p n c) gs) :
   Calls Tryz.prog 9 #[.string ⟨#[67, 79, 78, 67, 65, 84]⟩, .slice p n c] W fun e w' => e = .returned (fCat gs).dat ∧ Ext W w' := by
 have CT : Hid (∀ V, Ext W V → Calls Tryz.prog 19 #[.slice p n c] V fun e w' => ∃ ov, e = .returned (.tuple #[ov, (bad numF (seen gs)).dat]) ∧ w'.ownsRow V.heap.size 2 1 ov (got numF (seen gs)).length ((got numF (seen gs)).flatMap cI) ∧ Ext V w') := fun V e => numbers_any13 gs p n c V (hF.ext e)
 have CX : Hid (∀ V, Ext W V → Calls Tryz.prog 22 #[.slice p n c] V fun e w' => e = .returned (fCat gs).dat ∧ Ext V w') := fun V e => rconcat_any gs p n c V (hF.ext e)
 obtain ⟨q0, q1, q2, q3, hq⟩ := dat4 (fCat gs)
 rw [hq] at CX ⊢
 rw [dat_eq (bad numF (seen gs))] at CT
 generalize (bad numF (seen gs)).k = zk at *
 generalize (bad numF (seen gs)).n = zn at *
 generalize (bad numF (seen gs)).s = zs' at *
 generalize (bad numF (seen gs)).e = ze at *
 clear hq hF
 go_enter Tryz.func9, Tryz.ntmps9
 go_wp2_with fail
 refine (CT.out _ ((Ext.refl _).alloc _)).mono ?_
 rintro e w1 ⟨ov, rfl, O1, E1⟩
 obtain ⟨pv, cv, rfl, _⟩ := own_form O1
 have X1 : Hid (Ext W w1) := ((Ext.refl _).alloc _).trans E1
 have HB1 : Hid (Blk w1 W.heap.size (.int .i64 0) (.int .i64 0) (.string ⟨#[]⟩) (.int .i64 0)) := blk_top (by simp) E1
 obtain ⟨c0z, ⟨c0_0, c0_1, c0_2, c0_3⟩, c0f0, c0f1, c0f2, c0f3⟩ := HB1.out
 clear E1 O1
 go_wp2_with fail
 refine (CX.out _ (X1.out.alloc _)).mono ?_
 rintro e w2 ⟨rfl, E2⟩
 have X2 : Hid (Ext W w2) := (X1.out.alloc _).trans E2
 have HB2 : Hid (Blk w2 W.heap.size (.int .i64 0) (.int .i64 0) (.string ⟨#[]⟩) (.int .i64 0)) := (HB1.out.al _).ext E2
 clear c0z c0_0 c0_1 c0_2 c0_3 c0f0 c0f1 c0f2 c0f3 E2
 obtain ⟨c0z, ⟨c0_0, c0_1, c0_2, c0_3⟩, c0f0, c0f1, c0f2, c0f3⟩ := HB2.out
 go_wp2_with fail
 exact finB (HB2.out.set _ _ _ _) rfl ((((X2.out.setCell (by simp) _).setCell (by simp) _).setCell (by simp) _).setCell (by simp) _) (fun g0 g1 g2 g3 => by simp [results, Tryz.results9, go_sem, g0, g1, g2, g3]) (fun h => ⟨rfl, h⟩)

open Go.RowKit
set_option maxHeartbeats 1000000

theorem wrap_id (x : Int) (h1 : -9223372036854775808 ≤ x) (h2 : x ≤ 9223372036854775807) : wrap64 x = x := by unfold wrap64; omega
def fitN : List Ag → Nat
 | [] => 0
 | a :: l => 1 + a.l.length + fitN l
theorem fitN_app (a b : List Ag) : fitN (a ++ b) = fitN a + fitN b := by
 induction a with
 | nil => simp [fitN]
 | cons x a ih => simp only [List.cons_append, fitN, ih]; omega
theorem fitN_take {l : List Ag} {j : Nat} {a : Ag} (h : l[j]? = some a) : fitN (l.take (j + 1)) = fitN (l.take j) + 1 + a.l.length := by
 rw [List.take_add_one, h]
 show fitN (l.take j ++ [a]) = _
 rw [fitN_app]; simp [fitN]; omega
theorem fitN_le (l : List Ag) (j : Nat) : fitN (l.take j) ≤ fitN l := by
 have : fitN l = fitN (l.take j) + fitN (l.drop j) := by rw [← fitN_app, List.take_append_drop]
 omega
theorem fit_seen (l : List Ag) : (seen l).length ≤ fitN l ∧ l.length ≤ fitN l := by
 induction l with
 | nil => simp [seen, fitN]
 | cons a l ih =>
   have h1 : (seen1 a).length ≤ 1 + a.l.length := by unfold seen1; split <;> simp
   have h2 : seen (a :: l) = seen1 a ++ seen l := rfl
   rw [h2, List.length_append, List.length_cons]
   simp only [fitN]
   omega
theorem fit_mem {l : List Ag} {a : Ag} (h : a ∈ l) : a.l.length ≤ fitN l := by
 induction l with
 | nil => cases h
 | cons x l ih =>
   simp only [fitN]
   rcases List.mem_cons.1 h with rfl | h
   · omega
   · have := ih h; omega
set_option maxRecDepth 100000 in
theorem fits_any (gs : List Ag) (p : Option Addr) (n c : Nat) (W : World) (h : RdA W.heap.size W (.slice p n c) gs) (hm : ∀ a ∈ gs, a.l.length ≤ 140737488351232) :
   Calls Tryz.prog 5 #[.slice p n c] W fun e w' => e = .returned (.bool (decide (fitN gs ≤ 5000))) ∧ w' = W := by
 have HR : Hid (RdA W.heap.size W (.slice p n c) gs) := h
 have HN : Hid (n = gs.length ∧ ∀ a ∈ gs, a.l.length ≤ 140737488351232) := by
   obtain ⟨p', c', h1, _⟩ := h
   cases h1
   exact ⟨rfl, hm⟩
 clear h hm
 go_enter Tryz.func5, Tryz.ntmps5
 go_wp2_with fail
 go_loopw [4, 3] (fun iv mv wr => ∃ j : Nat, iv = .int .i64 (j : Int) ∧ mv = .int .i64 (fitN (gs.take j) : Int) ∧ fitN (gs.take j) ≤ 5000 ∧ j ≤ n ∧ wr = W) (fun iv _ _ => n - (intOf iv).toNat)
 case atStart => exact ⟨0, rfl, rfl, by simp [fitN], Nat.zero_le _, rfl⟩
 case round =>
   obtain ⟨j, rfl, rfl, hm, hj, rfl⟩ := hrel
   have HM : Hid (fitN (gs.take j) ≤ 5000) := hm
   by_cases hlt : j < n
   · have hltI : (j : Int) < (n : Int) := by omega
     obtain ⟨b, off, a, x, y, lv, rfl, ha, hb, hbW, ⟨k0, k1, k2, k3⟩, hV⟩ := HR.out.at (i := j) (by rw [← HN.out.1]; exact hlt)
     obtain ⟨p', n', c', rfl, hn', hc'⟩ := hV.form
     have HT : Hid (fitN (gs.take (j + 1)) = fitN (gs.take j) + 1 + n') := by show _ = _; rw [fitN_take ha, hn']
     have hml := HN.out.2 a (List.mem_of_getElem? ha)
     have hj0 : j ≤ 5000 := by
       have h2 : (gs.take j).length ≤ fitN (gs.take j) := (fit_seen (gs.take j)).2
       have h3 : (gs.take j).length = j := by rw [List.length_take]; have := HN.out.1; omega
       omega
     have WK : Hid (wrap64 ((j : Int) + 1) = ((j + 1 : Nat) : Int)) := wrap_1 j (by omega)
     have hj1 : j + 1 ≤ n := by omega
     obtain ⟨m, hmm⟩ : ∃ m, fitN (gs.take j) = m := ⟨_, rfl⟩
     rw [hmm] at HT HM hm ⊢
     obtain ⟨M1, hM1⟩ : ∃ q : Int, (m : Int) + 1 = q := ⟨_, rfl⟩
     obtain ⟨M2, hM2⟩ : ∃ q : Int, M1 + (n' : Int) = q := ⟨_, rfl⟩
     have hz1 : M1 ≤ 5001 ∧ 0 ≤ M1 := by omega
     have hz2 : M2 ≤ 140737488356233 ∧ 0 ≤ M2 := by omega
     have w1 : wrap64 ((m : Int) + 1) = M1 := (wrap_id _ (by omega) (by omega)).trans hM1
     have w2 : wrap64 (M1 + (n' : Int)) = M2 := (wrap_id _ (by clear w1; omega) (by clear w1; omega)).trans hM2
     have HQ : Hid (M2 = ((fitN (gs.take (j + 1)) : Nat) : Int)) := by show _ = _; rw [HT.out]; clear w1 w2; omega
     by_cases hg : 5000 < fitN (gs.take (j + 1))
     · have hd : decide (M2 > 5000) = true := by simp; have := HQ.out; clear w1 w2; omega
       have hI : M2 > 5000 := by have := HQ.out; clear w1 w2; omega
       have HR2 : Hid (decide (fitN gs ≤ 5000) = false) := by show _ = _; simp; have := fitN_le gs (j + 1); clear w1 w2; omega
       clear hg hm hM1 hM2 hz1 hz2 hml hn' hc' ha hV hb hlt hj hmm hj0
       go_wp2_with fail
       go_ret
       exact ⟨ret_bool HR2.out.symm, rfl⟩
     · have hd : decide (M2 > 5000) = false := by simp; have := HQ.out; clear w1 w2; omega
       have hI : ¬ M2 > 5000 := by have := HQ.out; clear w1 w2; omega
       have HG : Hid (fitN (gs.take (j + 1)) ≤ 5000) := by show _ ≤ _; clear w1 w2; omega
       clear hg hm hM1 hM2 hz1 hz2 hml hn' hc' ha hV hb hlt hj hmm hj0
       have wk := WK.out
       go_wp2_with fail
       go_roundw
       case rel => exact ⟨j + 1, by go_num, by rw [w2, HQ.out], HG.out, hj1, by trivial⟩
       case measure => exact meas n j hj1 wk
   · have hltI : ¬ (j : Int) < (n : Int) := by omega
     have HR2 : Hid (decide (fitN gs ≤ 5000) = true) := by
       show _ = _
       rw [show gs.take j = gs from List.take_of_length_le (by have := HN.out.1; omega)] at hm
       simpa using hm
     clear hlt hj hm
     go_wp2_with fail
     go_ret
     exact ⟨ret_bool HR2.out.symm, rfl⟩
/-! ### Arguments in memory of their own -/
theorem cA_one (q : Ag × Int × Int × Value) (h : q.2.2.2.oneCell' = true) : ∀ u ∈ [q].flatMap cA, u.oneCell' = true := by
 intro u hu
 simp [cA] at hu
 rcases hu with rfl | rfl | rfl | rfl
 · rfl
 · rfl
 · rfl
 · exact h
/-- The state of own when gs was copied. -/
structure Owns (W : World) (gs : List Ag) (ov : Value) (V : World) : Prop where
 e : Ext W V
 q : ∃ qs : List (Ag × Int × Int × Value), qs.map Prod.fst = gs ∧ V.ownsRow W.heap.size 34 4 ov qs.length (qs.flatMap cA) ∧ ∀ q ∈ qs, V.ownsRow W.heap.size 26 4 q.2.2.2 q.1.l.length (q.1.l.flatMap cV)
theorem Owns.ext {W : World} {gs : List Ag} {ov : Value} {V V' : World} (h : Owns W gs ov V) (e : Ext V V') : Owns W gs ov V' := by
 obtain ⟨h1, qs, h2, h3, h4⟩ := h
 exact ⟨h1.trans e, qs, h2, ownsRow_ext h3 e, fun q hq => ownsRow_ext (h4 q hq) e⟩
theorem Owns.rd {W : World} {gs : List Ag} {ov : Value} {V : World} (h : Owns W gs ov V) : RdA V.heap.size V ov gs := by
 obtain ⟨h1, qs, h2, h3, h4⟩ := h
 rw [← h2]
 exact own_rdA h3 (fun q hq => own_rdV (h4 q hq))
/-- A row of values is no row of arguments. -/
theorem apart {V : World} {base : Nat} {v ov : Value} {n m : Nat} {xs ys : List Value} (h : V.ownsRow base 26 4 v n xs) (g : V.ownsRow base 34 4 ov m ys) : v.ownBlock = none ∨ v.ownBlock ≠ ov.ownBlock := by
 rcases h.2 with ⟨rfl, _⟩ | ⟨b, _, cur, rfl, _, h3, _⟩
 · exact .inl rfl
 · right
   rcases g.2 with ⟨rfl, _⟩ | ⟨b', _, cur', rfl, _, g3, _⟩
   · simp [Value.ownBlock]
   · intro e
     simp [Value.ownBlock] at e
     subst e
     rw [h3] at g3
     cases g3
theorem owns_app {ops : Array Oper} {rest : List Oper} {o : Oper} {act : Act} {Q : Exit → Act → World → Prop} (W V WA : World) (s x : Operand) (ov : Value) (gs : List Ag) (a : Ag) (y z : Int) (lv : Value) (g : Nat) (hgd : o.guard = none)
   (ho : o.op = .call { callee := .builtin .append, args := #[s, x], argTypes := #[22, 22] }) (hs : act.eval s = ov) (hx : act.eval x = .slice (some ⟨g, 0, none⟩) 1 1)
   (hc : WA.cell? ⟨g, 0, none⟩ = some (.bool a.area) ∧ WA.cell? ⟨g, 1, none⟩ = some (.int .i64 y) ∧ WA.cell? ⟨g, 2, none⟩ = some (.int .i64 z) ∧ WA.cell? ⟨g, 3, none⟩ = some lv)
   (h : Owns W gs ov V) (e : Ext V WA) (hlv : WA.ownsRow W.heap.size 26 4 lv a.l.length (a.l.flatMap cV)) (h1 : lv.oneCell' = true) (hl : gs.length ≤ 5000)
   (K : ∀ p c W', Owns W (gs ++ [a]) (.slice p (gs.length + 1) c) W' → wpList Tryz.prog ops Q rest (act.put o.dst (.slice p (gs.length + 1) c)) W') :
   wpList Tryz.prog ops Q (o :: rest) act WA := by
 obtain ⟨h0, qs, h2, h3, h4⟩ := h.ext e
 have hq : qs.length = gs.length := by rw [← h2]; simp
 refine own_app2 eltA WA W s x ov _ qs.length 1 (qs.flatMap cA) (cA (a, y, z, lv)) W.heap.size hgd ho hs hx h3 ⟨rfl, _, _, rfl, .inr ⟨_, rfl, ?_⟩⟩ ?_ (by unfold maxLen; omega) (by omega) h0 (Nat.le_refl _) h0.size ?_
 · intro j u hj
   rw [Addr.add_lit, Nat.zero_add]
   match j, hj with
   | 0, hj => simp [cA] at hj; subst hj; exact hc.1
   | 1, hj => simp [cA] at hj; subst hj; exact hc.2.1
   | 2, hj => simp [cA] at hj; subst hj; exact hc.2.2.1
   | 3, hj => simp [cA] at hj; subst hj; exact hc.2.2.2
   | j + 4, hj => simp [cA] at hj
 · intro u hu
   exact cA_one (a, y, z, lv) h1 u (by simpa using hu)
 · intro v' W' k1 k2 k3 _
   obtain ⟨p, c, rfl, _⟩ := own_form k1
   rw [hq] at k1 ⊢
   refine K p c W' ⟨k2, qs ++ [(a, y, z, lv)], by simp [h2], by simpa [hq] using k1, ?_⟩
   intro q hqq
   rcases List.mem_append.1 hqq with hqq | hqq
   · exact (h4 q hqq).kept k3 (apart (h4 q hqq) h3)
   · simp at hqq
     subst hqq
     exact hlv.kept k3 (apart hlv h3)
theorem own_newAt {T : TypeId} {k b : Nat} (w W : World) (hb : b = W.heap.size) (h : w.heap.size ≤ W.heap.size) : (W.alloc (.cells #[] T)).ownsRow w.heap.size T k (.slice (some ⟨b, 0, none⟩) 0 0) 0 [] := by subst hb; exact own_new w W h
set_option maxRecDepth 100000 in
theorem own13_any (gs : List Ag) (p : Option Addr) (n c : Nat) (W : World) (h : RdA W.heap.size W (.slice p n c) gs) (hf : fitN gs ≤ 5000) :
   Calls Tryz.prog 8 #[.slice p n c] W fun e w' => ∃ p' c', e = .returned (.slice p' n c') ∧ RdA w'.heap.size w' (.slice p' n c') gs ∧ Ext W w' := by
 have HR : Hid (RdA W.heap.size W (.slice p n c) gs) := h
 have HN : Hid (n = gs.length ∧ fitN gs ≤ 5000) := by
   obtain ⟨p', c', h1, _⟩ := h
   cases h1
   exact ⟨rfl, hf⟩
 clear h hf
 go_enter Tryz.func8, Tryz.ntmps8
 go_wp2_with fail
 go_loopw [4, 3] (fun iv ov wr => ∃ (j : Nat) (pv : Option Addr) (cv : Nat), iv = .int .i64 (j : Int) ∧ ov = .slice pv j cv ∧ j ≤ n ∧ Owns W (gs.take j) (.slice pv j cv) wr) (fun iv _ _ => n - (intOf iv).toNat)
 case atStart => exact ⟨0, _, _, rfl, rfl, Nat.zero_le _, (Ext.refl _).alloc _, [], by simp, own_new W W (Nat.le_refl _), by intro q hq; cases hq⟩
 case round =>
   obtain ⟨j, pv, cv, rfl, rfl, hj, hS⟩ := hrel
   have HS : Hid (Owns W (gs.take j) (.slice pv j cv) wr) := hS
   clear hS
   by_cases hlt : j < n
   · have hltI : (j : Int) < (n : Int) := by omega
     obtain ⟨b, off, a, x, y, lv, rfl, ha, hb, hbW, ⟨k0, k1, k2, k3⟩, hV⟩ := (HR.out.low HS.out.e).at (i := j) (by rw [← HN.out.1]; exact hlt)
     obtain ⟨p', n', c', rfl, hn', hc'⟩ := hV.form
     have hal : a.l.length ≤ 5000 := Nat.le_trans (fit_mem (List.mem_of_getElem? ha)) HN.out.2
     have hnl : gs.length ≤ 5000 := Nat.le_trans (fit_seen gs).2 HN.out.2
     have HV : Hid (RdV W.heap.size wr (.slice p' n' c') a.l ∧ gs[j]? = some a ∧ n' = a.l.length ∧ a.l.length ≤ 5000 ∧ n ≤ 5000) := ⟨hV, ha, hn', hal, by have := HN.out.1; omega⟩
     have WK : Hid (wrap64 ((j : Int) + 1) = ((j + 1 : Nat) : Int)) := wrap_1 j (by have := HN.out.1; omega)
     have hj1 : j + 1 ≤ n := by omega
     have HE : Hid (Ext W wr) := HS.out.e
     clear hV ha hn' hc' hb hal hnl
     have hal2 : a.l.length * 40 ≤ 200000 := by have := HV.out.2.2.2.1; omega
     have HA2 : Hid (a.l.length * 40 ≤ 200000) := hal2
     have hjt : (gs.take j).length = j := by rw [List.length_take]; have := HN.out.1; omega
     have HJT : Hid ((gs.take j).length = j) := hjt
     clear hal2 hjt
     go_wp2_with (at_builtin; first | (have hM := HM.out; refine owns_app W wr _ _ _ _ (gs.take j) a x y _ _ rfl rfl (by rfl) (by rfl) (by simp [go_sem]) HS.out (Ext.alloc (Ext.setCell hM.2.1 (Nat.le_refl _) _) _) (World.ownsRow.alloc (ownsRow_mono (own_far hM.1 hM.2.2) HE.out.size) _) rfl (by rw [HJT.out]; have := HV.out.2.2.2.2; omega) ?_; intro p6 c6 W6 N6; rw [HJT.out] at N6 ⊢; have HN6 : Hid (Owns W (gs.take j ++ [a]) (.slice p6 (j + 1) c6) W6) := N6; clear N6 hM; have wk := WK.out) | (refine own_app2 eltV _ wr _ _ _ _ 0 a.l.length [] (a.l.flatMap cV) wr.heap.size rfl rfl (by rfl) (by rfl) (own_newAt (b := wr.heap.size + 1) wr _ (by simp) (Ext.sz (Ext.alloc (Ext.refl wr) _))) (HV.out.1.low (Below.mono (Ext.alloc (Ext.alloc (Ext.refl wr) _) _) HE.out.size)).row (cV_one a.l) (by unfold maxLen; have := HA2.out; omega) (by have := HA2.out; omega) (Ext.alloc (Ext.alloc (Ext.refl wr) _) _) (Nat.le_refl _) (Ext.sz (Ext.alloc (Ext.alloc (Ext.refl wr) _) _)) ?_; intro v' W' m1 m2 m3 m4; rw [Nat.zero_add, List.nil_append] at m1; obtain ⟨p5, c5, rfl, _⟩ := own_form m1; have BA : Blk W' wr.heap.size (.bool a.area) (.int .i64 x) (.int .i64 y) (.slice p' n' c') := Blk.grown (blk_top (by simp) ((Ext.refl _).alloc _)) m3 (by simp [Value.ownBlock]); have HM : Hid (W'.ownsRow wr.heap.size 26 4 (.slice p5 a.l.length c5) a.l.length (a.l.flatMap cV) ∧ Ext wr W' ∧ (Value.slice p5 a.l.length c5).ownBlock ≠ some wr.heap.size) := ⟨m1, m2, (by rcases m4 with m | m <;> (rw [m]; simp [Value.ownBlock] <;> omega))⟩; obtain ⟨d0z, ⟨d0_0, d0_1, d0_2, d0_3⟩, d0f0, d0f1, d0f2, d0f3⟩ := BA; clear m1 m2 m3 m4))
     go_roundw
     case rel => exact ⟨j + 1, _, _, by go_num, rfl, hj1, by rw [List.take_add_one, HV.out.2.1]; exact HN6.out⟩
     case measure => exact meas n j hj1 wk
   · have hltI : ¬ (j : Int) < (n : Int) := by omega
     have hjn : j = n := by omega
     subst hjn
     have H2 : Hid (Owns W gs (.slice pv j cv) wr) := by
       have h1 := HS.out
       rw [show gs.take j = gs from List.take_of_length_le (by have := HN.out.1; omega)] at h1
       exact h1
     clear hlt hj
     go_wp2_with fail
     go_ret
     exact ⟨_, _, rfl, H2.out.rd, H2.out.e⟩

open Go.ChangeShapes Go.WideShapes Go.RowKit
open Go.Joins (trod_struct4)
set_option maxHeartbeats 2000000

theorem weights_all {H : Type} {P : Program} {e : TypeId} : ∀ {l : List (DataW H)} {d : DataW H} {n : Nat}, d ∈ l → n ∈ d.weights P e → n ∈ DataW.weightsAll P e l
 | [], _, _, h, _ => by cases h
 | x :: l, d, n, h, hn => by
   rw [DataW.weightsAll, List.mem_append]
   rcases List.mem_cons.1 h with rfl | h
   · exact .inl hn
   · exact .inr (weights_all h hn)
theorem by_value : Tryz.prog.bytesOf 26 = 40 := by kernel_rfl
section
variable {H : Type} {enc : TypeId × Value → H} {w : World} {base : Nat} {sp : Nat → Bool} {hd : Bool}
theorem vals_len {fuel B : Nat} {c : Value} {x : DataW H × List MemPlace} {l : List Rw} (h : DataW.trod enc Tryz.prog w base sp hd fuel 30 [c] = some x) (hl : RdV B w c l) (hw : ∀ n ∈ x.1.weights Tryz.prog 30, n ≤ reachBytes) : l.length ≤ reachBytes := by
 obtain ⟨p, c', h1, _⟩ := hl
 rcases DataW.trod_slice Tryz.underlying30 h with ⟨e6, _⟩ | ⟨a, len, cap, elems, rest, n', hn', e6, hx, _, _, _, hel, _⟩
 · simp only [List.cons.injEq, and_true] at e6
   subst e6
   simp only [Value.slice.injEq] at h1
   omega
 · simp only [List.cons.injEq, and_true] at e6
   subst e6
   simp only [Value.slice.injEq] at h1
   subst hx
   have := hw ((elems.length + rest.length) * Tryz.prog.bytesOf 26) (by simp [DataW.weights, Tryz.underlying30])
   rw [by_value] at this
   omega
theorem list4 {α : Type} {cs : List α} (h : cs.length = 4) {v : α} (hv : some v = cs[3]?) : cs.drop 3 = [v] := by
 match cs, h with
 | [c0, c1, c2, c3], _ => simp at hv; subst hv; rfl
theorem args_len {fuel B : Nat} {c : Value} {x : DataW H × List MemPlace} {gs : List Ag} (h : DataW.trod enc Tryz.prog w base sp hd fuel 22 [c] = some x) (hA : RdA B w c gs) (hw : ∀ n ∈ x.1.weights Tryz.prog 22, n ≤ reachBytes) : ∀ a ∈ gs, a.l.length ≤ reachBytes := by
 intro a ha
 obtain ⟨i, hi, hai⟩ := List.mem_iff_getElem.1 ha
 obtain ⟨p, n, c', rfl, hn, _⟩ := hA.form
 obtain ⟨b, off, a', y, z, lv, rfl, ha', _, _, ⟨k0, k1, k2, k3⟩, hV⟩ := hA.at hi
 rw [List.getElem?_eq_getElem hi, hai] at ha'
 cases ha'
 rcases DataW.trod_slice Tryz.underlying22 h with ⟨e6, _⟩ | ⟨ad, len, cap, elems, rest, n', hn', e6, hx, _, _, _, hel, hall, _⟩
 · simp at e6
 · simp only [List.cons.injEq, and_true] at e6
   cases e6
   subst hx
   have hil : i < n := by omega
   have h0 := hall i hil
   rw [List.getElem?_eq_getElem (show i < elems.length by omega)] at h0
   obtain ⟨cs', h1, h2⟩ := Option.bind_eq_some_iff.1 h0
   obtain ⟨_, q1, q2⟩ := World.cells?_some h1
   rw [qc_arg] at q1 q2
   obtain ⟨y0, y1, y2, y3, m, hx3, _, _, _, _, h3⟩ := trod_struct4 Tryz.underlying34 h2
   simp [qc_vals] at h3
   have hc3 : cs'.drop 3 = [lv] := by
     have := q2 3 (by decide)
     rw [Addr.add_lit, Addr.add_lit, k3] at this
     exact list4 q1 this
   rw [hc3] at h3
   refine vals_len (by simpa using h3) hV (fun n hn => hw n ?_)
   simp only [DataW.weights, Tryz.underlying22]
   refine List.mem_cons_of_mem _ (List.mem_append_left _ (weights_all (d := elems[i].1) (List.mem_map.2 ⟨elems[i], List.getElem_mem _, rfl⟩) ?_))
   rw [hx3]
   simp only [DataW.weights, Tryz.underlying34]
   exact DataW.weights_mem_each (j := 3) rfl rfl n hn
end

open Go.ChangeShapes Go.WideShapes Go.ChangeAt Go.RowKit

theorem ownK : ownKnob Tryz.prog.godebug = none := by kernel_rfl
/-- A datum's cells. -/
def flat : Nat → DataW Unit → List Value
 | _ + 1, .lit (.int k z) => [.int k z]
 | _ + 1, .lit (.string l) => [.string ⟨l.toArray⟩]
 | n + 1, .agg ds => ds.flatMap (flat n)
 | _, _ => []
def layIn (cs : List Value) : Obj → Obj
 | .cells _ t frozen => .cells cs.toArray t frozen
 | o => o
theorem gNames : Tryz.prog.globalNamed "cadastre/value.names" = some 0 := by kernel_rfl
theorem gNamesType : (Tryz.prog.globals[0]?).map (·.type) = some 100 := by kernel_rfl
theorem cellsNames : Tryz.prog.cellsOf 100 = 6 := by kernel_rfl
theorem cellsStr : Tryz.prog.cellsOf 9 = 1 := by kernel_rfl
theorem names_of {W : World} {rest : List (String × DataW Unit)} (h : laidMet Tryz.prog (("cadastre/value.names", Rows.laid_cadastre_value_names) :: rest) W) : Nm W := by
 obtain ⟨ps, ⟨g', t', cs, fuel, p, q, hg', ht', hvar, hd, _, _⟩, _⟩ := h
 obtain rfl := Option.some.inj (gNames.symm.trans hg')
 obtain rfl := Option.some.inj (gNamesType.symm.trans ht')
 have hcell := World.var?_cell gNames hvar
 have hsz : 0 < W.heap.size := by
   have h0 := hvar
   simp only [World.var?, gNames, Option.bind_some] at h0
   cases hb : W.heap[0]? with
   | none => rw [hb] at h0; cases h0
   | some o => exact (Array.getElem?_eq_some_iff.1 hb).1
 cases fuel with
 | zero => simp [DataW.trod] at hd
 | succ fuel =>
   simp only [DataW.trod, Tryz.underlying100, cellsStr, cellsNames, Nat.mul_one] at hd
   split at hd
   · obtain ⟨xs, hm, hx⟩ := Option.map_eq_some_iff.1 hd
     have hxs : xs.map (·.1) = ([.lit (.string []), .lit (.string [35, 82, 69, 70, 33]), .lit (.string [35, 86, 65, 76, 85, 69, 33]), .lit (.string [35, 68, 73, 86, 47, 48, 33]), .lit (.string [35, 78, 85, 77, 33]), .lit (.string [35, 67, 89, 67, 76, 69, 33])] : List (DataW Unit)) := by
       have := congrArg Prod.fst hx
       simpa [Rows.laid_cadastre_value_names] using this
     have key : ∀ (i : Nat) (l : List UInt8), i < 6 → (xs.map (·.1))[i]? = some (DataW.lit (.string l)) → W.cell? ⟨0, i, none⟩ = some (.string ⟨l.toArray⟩) := by
       intro i l hi hl
       obtain ⟨b, hb, hf⟩ := Lib.mapM_at hm i i (by simp [hi])
       obtain ⟨s, hc, rfl, _⟩ := DataW.trod_string Tryz.underlying9 hf
       have h1 : cs.toList[i]? = some (.string s) := by
         have := congrArg (·[0]?) hc
         simpa [List.getElem?_take, List.getElem?_drop] using this
       have h2 : (xs.map (·.1))[i]? = some (DataW.lit (.string s.data.toList) : DataW Unit) := by simp [hb]
       rw [hl] at h2
       simp only [Option.some.injEq, DataW.lit.injEq, Lit.string.injEq] at h2
       rw [hcell i, h2]
       simpa using h1
     rw [hxs] at key
     exact ⟨hsz, key 0 _ (by decide) rfl, key 1 _ (by decide) rfl, key 2 _ (by decide) rfl, key 3 _ (by decide) rfl, key 4 _ (by decide) rfl, key 5 _ (by decide) rfl⟩
   · cases hd
end Go.Proofs.YtiahgalhemljnaaGreatDoor
