/-
 FoldParts is proved: of two areas comes what comes of one with the values of both. Its condition: the listed variables lie as the program's text lays them (the card ties them).
-/
import Derived.Test.YtiahgalhemljnaaGreatDoorU14
import Derived.Test.YtiahgalhemljnaaGreatDoorU15
import Derived.Test.YtiahgalhemljnaaGreatDoorU16
import Derived.Test.YtiahgalhemljnaaGreatDoorU17
import Derived.Test.YtiahgalhemljnaaGreatDoorCards
import Derived.Test.YtiahgalhemljnaaGreatDoorTie
import Derived.ChangeMaps5
import Derived.Lib.SmallJoins
namespace Go.Proofs.YtiahgalhemljnaaGreatDoor.foldParts
open Go.ChangeShapes Go.WideShapes Go.ChangeAt Go.RowKit
open Go.Joins
set_option maxHeartbeats 4000000

set_option maxRecDepth 100000 in
theorem walk (l : List Rw) (p : Option Addr) (n c : Nat) (m : List Rw) (q : Option Addr) (k d : Nat) (w : World) (rd : RdV w.heap.size w (.slice p n c) l) (vi : ∀ r ∈ l, I64 r.n) (_ : l.length ≤ maxLen) (rm : RdV w.heap.size w (.slice q k d) m) (mi : ∀ r ∈ m, I64 r.n) (_ : m.length ≤ maxLen) (hT : Tab w) (hN : Nm w) :
   Calls Tryz.prog 4 #[.slice p n c, .slice q k d] w fun e w' => e = .returned (.bool true) ∧ Ext w w' := by
 have c0 := fun W g => lives13_any W g
 have hn := rd.len
 have hk := rm.len
 have HT : Hid (Tab w) := hT
 clear hT
 by_cases hl : 2000 < n
 · have hd : decide ((n : Int) > 2000) = true := by simp; omega
   have hI : (n : Int) > 2000 := by omega
   clear rd vi rm mi hn hk hl
   go_enter Tryz.func4, Tryz.ntmps4
   go_wp2_with fail
   refine (c0 _ (hN.ext (by with_reducible repeat (first | assumption | exact Ext.refl _ | apply Ext.alloc | apply Ext.drew | apply Ext.drewN | (refine Ext.setCell ?_ (by simp) _))))).mono ?_
   rintro e w1 ⟨rfl, E1⟩
   go_wp2_with fail
   go_ret
   exact ⟨rfl, E1⟩
 have hd : decide ((n : Int) > 2000) = false := by simp; omega
 have hI : ¬ (n : Int) > 2000 := by omega
 by_cases hl2 : 2000 < k
 · have hd2 : decide ((k : Int) > 2000) = true := by simp; omega
   have hI2 : (k : Int) > 2000 := by omega
   clear rd vi rm mi hn hk hl hl2
   go_enter Tryz.func4, Tryz.ntmps4
   go_wp2_with fail
   refine (c0 _ (hN.ext (by with_reducible repeat (first | assumption | exact Ext.refl _ | apply Ext.alloc | apply Ext.drew | apply Ext.drewN | (refine Ext.setCell ?_ (by simp) _))))).mono ?_
   rintro e w1 ⟨rfl, E1⟩
   go_wp2_with fail
   go_ret
   exact ⟨rfl, E1⟩
 have hd2 : decide ((k : Int) > 2000) = false := by simp; omega
 have hI2 : ¬ (k : Int) > 2000 := by omega
 have HV : Hid (RdV w.heap.size w (.slice p n c) l ∧ n = l.length ∧ l.length ≤ 2000) := ⟨rd, hn, by omega⟩
 have HM : Hid (RdV w.heap.size w (.slice q k d) m ∧ k = m.length ∧ m.length ≤ 2000) := ⟨rm, hk, by omega⟩
 have A1 : AgI [⟨true, l⟩, ⟨true, m⟩] := fun x hx r hr => by simp at hx; rcases hx with rfl | rfl; exact vi r hr; exact mi r hr
 have A2 : AgI [⟨true, l ++ m⟩] := fun x hx r hr => by simp at hx; subst hx; rcases List.mem_append.1 hr with h | h; exact vi r h; exact mi r h
 have s2 : (seen [⟨true, l ++ m⟩]).length ≤ 15000 := by rw [area_seen]; simp; omega
 have s1 : (seen [⟨true, l⟩, ⟨true, m⟩]).length ≤ 15000 := by rw [parts_seen]; exact s2
 have CB : Hid (∀ W p n c, RdV W.heap.size W (.slice p n c) (l ++ m) → Calls Tryz.prog 12 #[.slice p n c] W fun e w' => ∃ p' c', e = .returned (.slice p' 1 c') ∧ RdA w'.heap.size w' (.slice p' 1 c') [⟨true, l ++ m⟩] ∧ Ext W w') := fun W p n c e => area_any (l ++ m) p n c W e (by simp; omega)
 have CL := fun W h => area_own l p n c W h (by omega)
 have CM := fun W h => area_own m q k d W h (by omega)
 have HO := parts l m
 have Fl : Hid (∀ W v, RdA W.heap.size W v [⟨true, l⟩, ⟨true, m⟩] → Fit W v [⟨true, l⟩, ⟨true, m⟩]) := fun W v h => ⟨h, A1, s1, by simp⟩
 have Fm : Hid (∀ W v, RdA W.heap.size W v [⟨true, l ++ m⟩] → Fit W v [⟨true, l ++ m⟩]) := fun W v h => ⟨h, A2, s2, by simp⟩
 obtain ⟨V0, hV0⟩ : ∃ v, fSum [⟨true, l⟩, ⟨true, m⟩] = v := ⟨_, rfl⟩
 have CL0 : Hid (∀ W p' c', Ext w W → RdA W.heap.size W (.slice p' 2 c') [⟨true, l⟩, ⟨true, m⟩] → Calls Tryz.prog 13 #[.slice p' 2 c'] W fun e w' => e = .returned (.agg #[.int .i64 V0.k, .int .i64 V0.n, .string V0.s, .int .i64 V0.e]) ∧ Ext W w') := fun W p' c' e h => by
   have q := fsum_any _ W p' 2 c' (Fl.out W _ h) (hN.ext e)
   rw [hV0, dat_eq] at q
   exact q
 have CM0 : Hid (∀ W p' c', Ext w W → RdA W.heap.size W (.slice p' 1 c') [⟨true, l ++ m⟩] → Calls Tryz.prog 13 #[.slice p' 1 c'] W fun e w' => e = .returned (.agg #[.int .i64 V0.k, .int .i64 V0.n, .string V0.s, .int .i64 V0.e]) ∧ Ext W w') := fun W p' c' e h => by
   have q := fsum_any _ W p' 1 c' (Fm.out W _ h) (hN.ext e)
   rw [← HO.1, hV0, dat_eq] at q
   exact q
 obtain ⟨V1, hV1⟩ : ∃ v, fBest ltB [⟨true, l⟩, ⟨true, m⟩] = v := ⟨_, rfl⟩
 have CL1 : Hid (∀ W p' c', Ext w W → RdA W.heap.size W (.slice p' 2 c') [⟨true, l⟩, ⟨true, m⟩] → Calls Tryz.prog 14 #[.slice p' 2 c'] W fun e w' => e = .returned (.agg #[.int .i64 V1.k, .int .i64 V1.n, .string V1.s, .int .i64 V1.e]) ∧ Ext W w') := fun W p' c' e h => by
   have q := fmin_any _ W p' 2 c' (Fl.out W _ h) (hN.ext e)
   rw [hV1, dat_eq] at q
   exact q
 have CM1 : Hid (∀ W p' c', Ext w W → RdA W.heap.size W (.slice p' 1 c') [⟨true, l ++ m⟩] → Calls Tryz.prog 14 #[.slice p' 1 c'] W fun e w' => e = .returned (.agg #[.int .i64 V1.k, .int .i64 V1.n, .string V1.s, .int .i64 V1.e]) ∧ Ext W w') := fun W p' c' e h => by
   have q := fmin_any _ W p' 1 c' (Fm.out W _ h) (hN.ext e)
   rw [← HO.2.1, hV1, dat_eq] at q
   exact q
 obtain ⟨V2, hV2⟩ : ∃ v, fBest gtB [⟨true, l⟩, ⟨true, m⟩] = v := ⟨_, rfl⟩
 have CL2 : Hid (∀ W p' c', Ext w W → RdA W.heap.size W (.slice p' 2 c') [⟨true, l⟩, ⟨true, m⟩] → Calls Tryz.prog 15 #[.slice p' 2 c'] W fun e w' => e = .returned (.agg #[.int .i64 V2.k, .int .i64 V2.n, .string V2.s, .int .i64 V2.e]) ∧ Ext W w') := fun W p' c' e h => by
   have q := fmax_any _ W p' 2 c' (Fl.out W _ h) (hN.ext e)
   rw [hV2, dat_eq] at q
   exact q
 have CM2 : Hid (∀ W p' c', Ext w W → RdA W.heap.size W (.slice p' 1 c') [⟨true, l ++ m⟩] → Calls Tryz.prog 15 #[.slice p' 1 c'] W fun e w' => e = .returned (.agg #[.int .i64 V2.k, .int .i64 V2.n, .string V2.s, .int .i64 V2.e]) ∧ Ext W w') := fun W p' c' e h => by
   have q := fmax_any _ W p' 1 c' (Fm.out W _ h) (hN.ext e)
   rw [← HO.2.2.1, hV2, dat_eq] at q
   exact q
 obtain ⟨V3, hV3⟩ : ∃ v, fMean [⟨true, l⟩, ⟨true, m⟩] = v := ⟨_, rfl⟩
 have CL3 : Hid (∀ W p' c', Ext w W → RdA W.heap.size W (.slice p' 2 c') [⟨true, l⟩, ⟨true, m⟩] → Calls Tryz.prog 16 #[.slice p' 2 c'] W fun e w' => e = .returned (.agg #[.int .i64 V3.k, .int .i64 V3.n, .string V3.s, .int .i64 V3.e]) ∧ Ext W w') := fun W p' c' e h => by
   have q := favg_any _ W p' 2 c' (Fl.out W _ h) (hN.ext e)
   rw [hV3, dat_eq] at q
   exact q
 have CM3 : Hid (∀ W p' c', Ext w W → RdA W.heap.size W (.slice p' 1 c') [⟨true, l ++ m⟩] → Calls Tryz.prog 16 #[.slice p' 1 c'] W fun e w' => e = .returned (.agg #[.int .i64 V3.k, .int .i64 V3.n, .string V3.s, .int .i64 V3.e]) ∧ Ext W w') := fun W p' c' e h => by
   have q := favg_any _ W p' 1 c' (Fm.out W _ h) (hN.ext e)
   rw [← HO.2.2.2.1, hV3, dat_eq] at q
   exact q
 obtain ⟨V4, hV4⟩ : ∃ v, fCat [⟨true, l⟩, ⟨true, m⟩] = v := ⟨_, rfl⟩
 have CL4 : Hid (∀ W p' c', Ext w W → RdA W.heap.size W (.slice p' 2 c') [⟨true, l⟩, ⟨true, m⟩] → Calls Tryz.prog 11 #[.slice p' 2 c'] W fun e w' => e = .returned (.agg #[.int .i64 V4.k, .int .i64 V4.n, .string V4.s, .int .i64 V4.e]) ∧ Ext W w') := fun W p' c' e h => by
   have q := fcat_any _ W p' 2 c' (Fl.out W _ h) (HT.out.ext e) (hN.ext e)
   rw [hV4, dat_eq] at q
   exact q
 have CM4 : Hid (∀ W p' c', Ext w W → RdA W.heap.size W (.slice p' 1 c') [⟨true, l ++ m⟩] → Calls Tryz.prog 11 #[.slice p' 1 c'] W fun e w' => e = .returned (.agg #[.int .i64 V4.k, .int .i64 V4.n, .string V4.s, .int .i64 V4.e]) ∧ Ext W w') := fun W p' c' e h => by
   have q := fcat_any _ W p' 1 c' (Fm.out W _ h) (HT.out.ext e) (hN.ext e)
   rw [← HO.2.2.2.2.1, hV4, dat_eq] at q
   exact q
 obtain ⟨V5, hV5⟩ : ∃ v, fOr [⟨true, l⟩, ⟨true, m⟩] = v := ⟨_, rfl⟩
 have CL5 : Hid (∀ W p' c', Ext w W → RdA W.heap.size W (.slice p' 2 c') [⟨true, l⟩, ⟨true, m⟩] → Calls Tryz.prog 10 #[.slice p' 2 c'] W fun e w' => e = .returned (.agg #[.int .i64 V5.k, .int .i64 V5.n, .string V5.s, .int .i64 V5.e]) ∧ Ext W w') := fun W p' c' e h => by
   have q := for_any _ W p' 2 c' (Fl.out W _ h) (hN.ext e)
   rw [hV5, dat_eq] at q
   exact q
 have CM5 : Hid (∀ W p' c', Ext w W → RdA W.heap.size W (.slice p' 1 c') [⟨true, l ++ m⟩] → Calls Tryz.prog 10 #[.slice p' 1 c'] W fun e w' => e = .returned (.agg #[.int .i64 V5.k, .int .i64 V5.n, .string V5.s, .int .i64 V5.e]) ∧ Ext W w') := fun W p' c' e h => by
   have q := for_any _ W p' 1 c' (Fm.out W _ h) (hN.ext e)
   rw [← HO.2.2.2.2.2, hV5, dat_eq] at q
   exact q
 generalize V0.k = V0k at *
 generalize V0.n = V0n at *
 generalize V0.s = V0s at *
 generalize V0.e = V0e at *
 generalize V1.k = V1k at *
 generalize V1.n = V1n at *
 generalize V1.s = V1s at *
 generalize V1.e = V1e at *
 generalize V2.k = V2k at *
 generalize V2.n = V2n at *
 generalize V2.s = V2s at *
 generalize V2.e = V2e at *
 generalize V3.k = V3k at *
 generalize V3.n = V3n at *
 generalize V3.s = V3s at *
 generalize V3.e = V3e at *
 generalize V4.k = V4k at *
 generalize V4.n = V4n at *
 generalize V4.s = V4s at *
 generalize V4.e = V4e at *
 generalize V5.k = V5k at *
 generalize V5.n = V5n at *
 generalize V5.s = V5s at *
 generalize V5.e = V5e at *
 have qE := eq_val
 have qG := gd_val
 clear rd vi rm mi hn hk hl hl2 A1 A2 s1 s2 HO hV0 hV1 hV2 hV3 hV4 hV5
 go_enter Tryz.func4, Tryz.ntmps4
 go_wp2_with (at_builtin; first | (refine own_app eltV _ w _ _ _ _ 0 l.length [] (l.flatMap cV) w.heap.size rfl rfl (by rfl) (by rfl) (own_new w w (Nat.le_refl _)) (HV.out.1.low ((Ext.refl _).alloc _)).row (cV_one l) (by unfold maxLen; have := HV.out.2; omega) (by have := HV.out.2; omega) ((Ext.refl _).alloc _) (Nat.le_refl _) (by simp) ?_; intro v' W' k1 k2 _; rw [Nat.zero_add, List.nil_append] at k1; obtain ⟨p2, c2, rfl, hc2⟩ := own_form k1; have K1 : Hid (W'.ownsRow w.heap.size 26 4 (.slice p2 l.length c2) l.length (l.flatMap cV)) := k1; have K2 : Hid (Ext w W') := k2; clear k1 k2 hc2) | (refine own_app eltV _ w _ _ _ _ l.length m.length (l.flatMap cV) (m.flatMap cV) w.heap.size rfl rfl (by rfl) (by rfl) K1.out (HM.out.1.low K2.out).row (cV_one m) (by unfold maxLen; have := HV.out.2; have := HM.out.2; omega) (by have := HV.out.2; have := HM.out.2; omega) K2.out (Nat.le_refl _) K2.out.size ?_; intro v' W2 k1 k2 _; rw [← List.length_append, ← List.flatMap_append] at k1; obtain ⟨p3, c3, rfl, hc3⟩ := own_form k1; have K3 : Hid (RdV W2.heap.size W2 (.slice p3 (l.length + m.length) c3) (l ++ m)) := (by have z := own_rdV k1; rw [List.length_append] at z; exact z); have K4 : Hid (Ext w W2) := k2; clear k1 k2 hc3 K1 K2))
 refine (CB.out _ _ _ _ K3.out).mono ?_
 rintro e w3 ⟨pb, cb, rfl, RB, E3⟩
 have HB3 : Hid (RdA w3.heap.size w3 (.slice pb 1 cb) [⟨true, l ++ m⟩]) := RB
 have X3 : Ext w w3 := K4.out.trans E3
 clear RB E3
 go_wp2_with fail
 refine (CL _ (HV.out.1.to (Nat.le_refl _) X3)).mono ?_
 rintro e w4 ⟨ga, pa, ca, rfl, OA, RA, NA, E4⟩
 have HOA : Hid (w4.ownsRow w3.heap.size 34 4 (.slice (some ⟨ga, 0, none⟩) 1 1) 1 (cA (⟨true, l⟩, (l.length : Int), 1, .slice pa l.length ca)) ∧ w4.ownsRow w3.heap.size 26 4 (.slice pa l.length ca) l.length (l.flatMap cV) ∧ (Value.slice pa l.length ca).ownBlock ≠ some ga) := ⟨OA, RA, NA⟩
 have X4 : Hid (Ext w3 w4) := E4
 clear OA RA NA E4
 go_wp2_with fail
 refine (CM _ (HM.out.1.to (Nat.le_refl _) (X3.trans X4.out))).mono ?_
 rintro e w5 ⟨gm, pm, cm, rfl, OM, RM, NM, E5⟩
 have HOM : Hid (w5.ownsRow w4.heap.size 34 4 (.slice (some ⟨gm, 0, none⟩) 1 1) 1 (cA (⟨true, m⟩, (m.length : Int), 1, .slice pm m.length cm)) ∧ w5.ownsRow w4.heap.size 26 4 (.slice pm m.length cm) m.length (m.flatMap cV) ∧ (Value.slice pm m.length cm).ownBlock ≠ some ga) := ⟨OM, RM, fun h => absurd (RM.lt _ h).1 (by have := (HOA.out.1.lt ga rfl).2; omega)⟩
 have HOA5 : Hid (w5.ownsRow w3.heap.size 34 4 (.slice (some ⟨ga, 0, none⟩) 1 1) 1 (cA (⟨true, l⟩, (l.length : Int), 1, .slice pa l.length ca)) ∧ w5.ownsRow w3.heap.size 26 4 (.slice pa l.length ca) l.length (l.flatMap cV) ∧ (Value.slice pa l.length ca).ownBlock ≠ some ga) := ⟨ownsRow_ext HOA.out.1 E5, ownsRow_ext HOA.out.2.1 E5, HOA.out.2.2⟩
 have X5 : Hid (Ext w3 w5) := X4.out.trans E5
 clear OM RM NM E5 HOA X4
 go_wp2_with (at_builtin; (refine own_app eltA _ w3 _ _ _ _ 1 1 (cA (⟨true, l⟩, (l.length : Int), 1, .slice pa l.length ca)) (cA (⟨true, m⟩, (m.length : Int), 1, .slice pm m.length cm)) w3.heap.size rfl rfl (by rfl) (by rfl) HOA5.out.1 (own_row HOM.out.1) (cA_one _ rfl) (by unfold maxLen; omega) (by omega) X5.out (Nat.le_refl _) X5.out.size ?_; intro v' W6 k1 k2 k3; obtain ⟨pt, ct, rfl, hct⟩ := own_form k1; have KT : Hid (RdA W6.heap.size W6 (.slice pt 2 ct) [⟨true, l⟩, ⟨true, m⟩]) := (own_rdA (l := [(⟨true, l⟩, (l.length : Int), 1, .slice pa l.length ca), (⟨true, m⟩, (m.length : Int), 1, .slice pm m.length cm)]) k1 (by intro z hz; simp only [List.mem_cons, List.not_mem_nil, or_false] at hz; rcases hz with rfl | rfl; exact own_rdV (own_grown HOA5.out.2.1 k3 HOA5.out.2.2); exact own_rdV (own_grown HOM.out.2.1 k3 HOM.out.2.2))); have K6 : Hid (Ext w3 W6) := k2; clear k1 k2 k3 hct HOM HOA5 X5))
 have X6 : Ext w W6 := X3.trans K6.out
 have HB6 : Hid (RdA W6.heap.size W6 (.slice pb 1 cb) [⟨true, l ++ m⟩]) := HB3.out.to (Nat.le_refl _) K6.out
 have Y6 : Hid (Ext W6 W6) := Ext.refl W6
 clear X3 HB3 K6
 refine (CL0.out _ _ _ X6 (KT.out.to (Nat.le_refl _) Y6.out)).mono ?_
 rintro e w10 ⟨rfl, E10⟩
 have X10 : Ext w w10 := X6.trans E10
 have Y10 : Hid (Ext W6 w10) := Y6.out.trans E10
 clear E10 X6 Y6
 go_wp2_with fail
 refine (CM0.out _ _ _ X10 (HB6.out.to (Nat.le_refl _) Y10.out)).mono ?_
 rintro e w11 ⟨rfl, E11⟩
 have X11 : Ext w w11 := X10.trans E11
 have Y11 : Hid (Ext W6 w11) := Y10.out.trans E11
 clear E11 X10 Y10
 go_wp2_with fail
 refine (CL1.out _ _ _ X11 (KT.out.to (Nat.le_refl _) Y11.out)).mono ?_
 rintro e w12 ⟨rfl, E12⟩
 have X12 : Ext w w12 := X11.trans E12
 have Y12 : Hid (Ext W6 w12) := Y11.out.trans E12
 clear E12 X11 Y11
 go_wp2_with fail
 refine (CM1.out _ _ _ X12 (HB6.out.to (Nat.le_refl _) Y12.out)).mono ?_
 rintro e w13 ⟨rfl, E13⟩
 have X13 : Ext w w13 := X12.trans E13
 have Y13 : Hid (Ext W6 w13) := Y12.out.trans E13
 clear E13 X12 Y12
 go_wp2_with fail
 refine (CL2.out _ _ _ X13 (KT.out.to (Nat.le_refl _) Y13.out)).mono ?_
 rintro e w14 ⟨rfl, E14⟩
 have X14 : Ext w w14 := X13.trans E14
 have Y14 : Hid (Ext W6 w14) := Y13.out.trans E14
 clear E14 X13 Y13
 go_wp2_with fail
 refine (CM2.out _ _ _ X14 (HB6.out.to (Nat.le_refl _) Y14.out)).mono ?_
 rintro e w15 ⟨rfl, E15⟩
 have X15 : Ext w w15 := X14.trans E15
 have Y15 : Hid (Ext W6 w15) := Y14.out.trans E15
 clear E15 X14 Y14
 go_wp2_with fail
 refine (CL3.out _ _ _ X15 (KT.out.to (Nat.le_refl _) Y15.out)).mono ?_
 rintro e w16 ⟨rfl, E16⟩
 have X16 : Ext w w16 := X15.trans E16
 have Y16 : Hid (Ext W6 w16) := Y15.out.trans E16
 clear E16 X15 Y15
 go_wp2_with fail
 refine (CM3.out _ _ _ X16 (HB6.out.to (Nat.le_refl _) Y16.out)).mono ?_
 rintro e w17 ⟨rfl, E17⟩
 have X17 : Ext w w17 := X16.trans E17
 have Y17 : Hid (Ext W6 w17) := Y16.out.trans E17
 clear E17 X16 Y16
 go_wp2_with fail
 refine (CL4.out _ _ _ X17 (KT.out.to (Nat.le_refl _) Y17.out)).mono ?_
 rintro e w18 ⟨rfl, E18⟩
 have X18 : Ext w w18 := X17.trans E18
 have Y18 : Hid (Ext W6 w18) := Y17.out.trans E18
 clear E18 X17 Y17
 go_wp2_with fail
 refine (CM4.out _ _ _ X18 (HB6.out.to (Nat.le_refl _) Y18.out)).mono ?_
 rintro e w19 ⟨rfl, E19⟩
 have X19 : Ext w w19 := X18.trans E19
 have Y19 : Hid (Ext W6 w19) := Y18.out.trans E19
 clear E19 X18 Y18
 go_wp2_with fail
 refine (CL5.out _ _ _ X19 (KT.out.to (Nat.le_refl _) Y19.out)).mono ?_
 rintro e w20 ⟨rfl, E20⟩
 have X20 : Ext w w20 := X19.trans E20
 have Y20 : Hid (Ext W6 w20) := Y19.out.trans E20
 clear E20 X19 Y19
 go_wp2_with fail
 refine (CM5.out _ _ _ X20 (HB6.out.to (Nat.le_refl _) Y20.out)).mono ?_
 rintro e w21 ⟨rfl, E21⟩
 have X21 : Ext w w21 := X20.trans E21
 have Y21 : Hid (Ext W6 w21) := Y20.out.trans E21
 clear E21 X20 Y20
 go_wp2_with fail
 refine (c0 _ (hN.ext X21)).mono ?_
 rintro e w90 ⟨rfl, E90⟩
 have X90 : Ext w w90 := X21.trans E90
 go_wp2_with fail
 go_ret
 exact ⟨rfl, X90⟩

theorem laidOut : laidOutB Tryz.prog = true := by kernel_rfl
set_option maxRecDepth 100000 in
theorem contract (H : Type) (enc : TypeId × Value → H) (W : World) (base : Nat) (args : Array Value) (ds gs : List (DataW H)) (before : List MemPlace)
   (hval0 : ∀ (j : Nat) t v, Tryz.f4.params[j]? = some t → args[j]? = some v → Value.okWide Tryz.prog W .any base t v)
   (hW : DataW.Whole enc Tryz.prog Tryz.f4.params.toList Rows.foldPartsSpec.vars false W args.toList ds gs before) (hL : laidMetH Tryz.prog Rows.foldPartsRow.laid W) :
   Calls Tryz.prog 4 args W fun e W' => ∃ v, e = .returned v ∧ Rows.foldPartsSpec.post enc Tryz.prog Tryz.f4 false true false false W args v W' := by
 have hval := hval0
 have hW' := hW
 obtain ⟨p, q, hA0, hV, rfl, hfz, hnd⟩ := hW'
 have hA : DataW.TrodAll enc Tryz.prog W 0 (fun _ => true) true Tryz.f4.params.toList args.toList ds p := hA0
 rw [Tryz.params4] at hA hval
 obtain ⟨v0, vs0, d0, ds0, p0, q0, hargs, rfl, rfl, h0, r0⟩ := trodAll_cons hA
 obtain ⟨v1, vs1, d1, ds1, p1, q1, rfl, rfl, rfl, h1, r1⟩ := trodAll_cons r0
 obtain ⟨rfl, rfl, rfl⟩ := trodAll_nil r1
 obtain rfl : args = #[v0, v1] := by cases args; simp_all
 obtain ⟨rfl, rfl⟩ := trodVars_none hV
 have j0 := h0
 have lt0 : ∀ x ∈ p0, x.block < W.heap.size := by obtain ⟨m, hm⟩ := j0; exact DataW.trod_lt m _ _ _ hm
 obtain ⟨pp0, ln0, cl0, rfl⟩ := okWide_slice Tryz.underlying30 (hval 0 30 v0 rfl rfl)
 obtain ⟨l0, rd0, vi0, vm0⟩ : ∃ l, RdV W.heap.size W (.slice pp0 ln0 cl0) l ∧ (∀ r ∈ l, I64 r.n) ∧ l.length ≤ maxLen := by
   obtain ⟨fuel, hf⟩ := h0
   exact open_vals hf
 have j1 := h1
 have lt1 : ∀ x ∈ p1, x.block < W.heap.size := by obtain ⟨m, hm⟩ := j1; exact DataW.trod_lt m _ _ _ hm
 obtain ⟨pp1, ln1, cl1, rfl⟩ := okWide_slice Tryz.underlying30 (hval 1 30 v1 rfl rfl)
 obtain ⟨l1, rd1, vi1, vm1⟩ : ∃ l, RdV W.heap.size W (.slice pp1 ln1 cl1) l ∧ (∀ r ∈ l, I64 r.n) ∧ l.length ≤ maxLen := by
   obtain ⟨fuel, hf⟩ := h1
   exact open_vals hf
 clear hA0 hval0
 refine (walk l0 pp0 ln0 cl0 l1 pp1 ln1 cl1 W rd0 vi0 vm0 rd1 vi1 vm1 (tab_ofZ hL) (nm_ofZ hL)).mono fun e W' ⟨he, bel⟩ => ?_
 subst he
 exact ⟨_, rfl, _, _, _, [], _, [], hW, trodAll_mk1 (shut_bool Tryz.underlying4 _), (trodAll_cons_mk (Below.trod laidOut (by kernel_rfl) (of_decide_eq_true (by kernel_rfl)) j0 bel lt0) (trodAll_cons_mk (Below.trod laidOut (by kernel_rfl) (of_decide_eq_true (by kernel_rfl)) j1 bel lt1) trodAll_mk0)), rfl, Below.frame bel _, fun h => by cases h⟩

theorem laid_met (os : Os) : laidMet Tryz.prog Rows.foldPartsRow.laid ((laidWorldZ os).forCall (fun _ _ => 0) ⟨#[], #[.slice none 0 0, .slice none 0 0], []⟩).memory :=
 laidMet_of_run' 8 (by kernel_rfl) (by kernel_rfl)
theorem reads (os : Os) {H : Type} (enc : TypeId × Value → H) : ∃ places, DataW.whole enc Tryz.prog ((laidWorldZ os).forCall (fun _ _ => 0) ⟨#[], #[.slice none 0 0, .slice none 0 0], []⟩).memory Tryz.f4.params.toList Rows.foldPartsSpec.vars false (#[.slice none 0 0, .slice none 0 0] : Array Value).toList 8 = some ([.nil, .nil], [], places) :=
 ⟨[], by kernel_rfl⟩

set_option maxRecDepth 100000 in
theorem lifted (os : Os) (started : os.Started) (H : Type) (enc : TypeId × Value → H) (F : Stop.Interp) :
   ReturnsInHanded {} Tryz.checked os 4 .any ((OpenSpec.ofChange Rows.foldPartsSpec).preRow enc Tryz.prog Tryz.f4 Rows.foldPartsRow.domain false Rows.foldPartsRow.laid) (((OpenSpec.ofChange Rows.foldPartsSpec).at F).post enc Tryz.prog Tryz.f4 false true false false) := by
 obtain ⟨places, hx⟩ := reads os enc
 refine returnsInHanded_of_row (C := Tryz.checked) (s := OpenSpec.ofChange Rows.foldPartsSpec) ownK started (by kernel_rfl) Tryz.func4
   (witness_row_at (enc := enc) (C := Tryz.checked) false (laidWorldZ os) #[.slice none 0 0, .slice none 0 0] rfl (by kernel_rfl) (by kernel_rfl) (by kernel_rfl)
     (OpenSpec.preRow_of_cond 8 hx (by kernel_rfl) (fun k hk => by cases hk) (by kernel_rfl) (by
       rw [MakeChecks.laidMetH_plain _ _ _ (by kernel_rfl)]
       exact laid_met os))) ?_
 intro W base args ds gs before hval hW _ _ _ hL _ _
 exact contract H enc W base args ds gs before hval hW hL

theorem said : Rows.FoldPartsSaid :=
 OpenClaim.holds_of_cond 4 Tryz.f4 rfl rfl rfl rfl rfl rfl rfl ⟨rfl, rfl, rfl, rfl, rfl⟩ rfl rfl rfl rfl rfl (by kernel_rfl) Tryz.func4 (by kernel_rfl)
   (of_decide_eq_true (by kernel_rfl)) (by unfold Func.isWrapper; first | (rw [if_pos (by decide +kernel)]; kernel_rfl) | (rw [if_neg (by decide +kernel)]; exact ⟨rfl, rfl⟩))
   (fun os started H enc _ F => by rw [OpenClaim.pre_eq_preRow]; exact lifted os started H enc F)

theorem plain (f : FuncId) (fn : Func) (hf : Tryz.pinned.checked.prog.funcNamed Rows.foldPartsRow.func = some f) (hfn : Tryz.pinned.checked.prog.funcs[f]? = some fn) :
   false = Tryz.pinned.checked.prog.looks [] ∧ ∀ (j : Nat) t, fn.params[j]? = some t → Tryz.pinned.checked.prog.wantsStandIn t = false := by
 obtain rfl : f = 4 := Option.some.inj ((show Tryz.prog.funcNamed Rows.foldPartsRow.func = some 4 by kernel_rfl).symm.trans hf) |>.symm
 obtain rfl : fn = Tryz.f4 := (Option.some.inj (Tryz.func4.symm.trans hfn)).symm
 refine ⟨by kernel_rfl, fun j t ht => ?_⟩
 rw [Tryz.params4] at ht
 have hm : t ∈ [30, 30] := by simpa using Array.mem_of_getElem? ht
 have hall : ([30, 30].all fun u => !Tryz.prog.wantsStandIn u) = true := by kernel_rfl
 exact (show Tryz.prog.wantsStandIn t = false by simpa using List.all_eq_true.1 hall t hm)

theorem card : Rows.FoldPartsCardSaid :=
 Claim7.holds_tied_plain_at .later [] _ _ _ _ said (fun _ h => by cases h) (by kernel_rfl) (fun _ h => by cases h) foldParts_row_tie rfl ⟨rfl, rfl⟩ (by kernel_rfl) rfl plain (by kernel_rfl)
end Go.Proofs.YtiahgalhemljnaaGreatDoor.foldParts
namespace Go.Proofs.YtiahgalhemljnaaGreatDoor
theorem foldParts_card : Rows.FoldPartsCardSaid := foldParts.card
end Go.Proofs.YtiahgalhemljnaaGreatDoor
