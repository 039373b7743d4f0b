/-
 FoldOrders is proved: of whatever values that are no errors, two of which change places, come the same sum, least, greatest, mean, count and truths. Its condition: the listed variables lie as the program's text lays them (the card ties them).
-/
import Derived.Test.YtiahgalhemljnaaDoorQ14
import Derived.Test.YtiahgalhemljnaaDoorQ17
import Derived.Test.YtiahgalhemljnaaDoorQ15
import Derived.Test.YtiahgalhemljnaaDoorCards
import Derived.Test.YtiahgalhemljnaaDoorTie
import Derived.ChangeMaps5
import Derived.Lib.SmallJoins
namespace Go.Proofs.YtiahgalhemljnaaDoor.foldOrders
open Go.ChangeShapes Go.WideShapes Go.ChangeAt Go.RowKit
open Go.Joins
set_option maxHeartbeats 4000000

set_option maxRecDepth 100000 in
theorem walk (l : List Rw) (p : Option Addr) (n c : Nat) (a b : Int) (w : World) (rd : RdV w.heap.size w (.slice p n c) l) (vi : ∀ r ∈ l, I64 r.n) (vm : l.length ≤ maxLen) (wa : (Lit.int .u16 a).wf = true) (wb : (Lit.int .u16 b).wf = true) (hN : Nm w) :
   Calls Tryd.prog 5 #[.slice p n c, .int .u16 a, .int .u16 b] w fun e w' => e = .returned (.bool true) ∧ Ext w w' := by
 have c0 := fun W g => lives13_any W g
 have hn := rd.len
 unfold maxLen at vm
 have ha : 0 ≤ a ∧ a ≤ 65535 := by simp [Lit.wf, IntKind.min, IntKind.max, IntKind.signed, IntKind.bits] at wa; omega
 have hb : 0 ≤ b ∧ b ≤ 65535 := by simp [Lit.wf, IntKind.min, IntKind.max, IntKind.signed, IntKind.bits] at wb; omega
 clear wa wb
 by_cases h0 : n = 0
 · have e0 : ((n : Int) == 0) = true := by simp; omega
   clear rd vi vm hn h0 ha hb
   go_enter Tryd.func5, Tryd.ntmps5
   go_wp2_with fail
   refine (c0 _ (hN.ext (by with_reducible repeat (first | assumption | exact Ext.refl _ | apply Ext.alloc | apply Ext.drew | apply Ext.drewN | (refine Ext.setCell ?_ (by simp) _))))).mono ?_
   rintro e w1 ⟨rfl, E1⟩
   go_wp2_with fail
   go_ret
   exact ⟨rfl, E1⟩
 have e0 : ((n : Int) == 0) = false := by simp; omega
 by_cases hl : 2000 < n
 · have hd : decide ((n : Int) > 2000) = true := by simp; omega
   have hI : (n : Int) > 2000 := by omega
   clear rd vi vm hn hl h0 ha hb
   go_enter Tryd.func5, Tryd.ntmps5
   go_wp2_with fail
   refine (c0 _ (hN.ext (by with_reducible repeat (first | assumption | exact Ext.refl _ | apply Ext.alloc | apply Ext.drew | apply Ext.drewN | (refine Ext.setCell ?_ (by simp) _))))).mono ?_
   rintro e w1 ⟨rfl, E1⟩
   go_wp2_with fail
   go_ret
   exact ⟨rfl, E1⟩
 have hd : decide ((n : Int) > 2000) = false := by simp; omega
 have hI : ¬ (n : Int) > 2000 := by omega
 have cE := fun W h => errors_any l p n c W h (by omega)
 cases hbad : l.any badR
 rotate_left
 · rw [hbad] at cE
   have HV : Hid (RdV w.heap.size w (.slice p n c) l) := rd
   clear rd vi vm hn hl h0 ha hb hbad
   go_enter Tryd.func5, Tryd.ntmps5
   go_wp2_with fail
   refine (cE _ HV.out).mono ?_
   rintro e w1 ⟨rfl, rfl⟩
   go_wp2_with fail
   refine (c0 _ (hN.ext (by with_reducible repeat (first | assumption | exact Ext.refl _ | apply Ext.alloc | apply Ext.drew | apply Ext.drewN | (refine Ext.setCell ?_ (by simp) _))))).mono ?_
   rintro e w2 ⟨rfl, E1⟩
   go_wp2_with fail
   go_ret
   exact ⟨rfl, E1⟩
 rw [hbad] at cE
 obtain ⟨i, hi⟩ := Int.eq_ofNat_of_zero_le (Int.emod_nonneg a (show (n : Int) ≠ 0 by omega))
 obtain ⟨k, hk⟩ := Int.eq_ofNat_of_zero_le (Int.emod_nonneg b (show (n : Int) ≠ 0 by omega))
 have hi2 : i < l.length := by have := Int.emod_lt_of_pos a (show (0 : Int) < n by omega); omega
 have hk2 : k < l.length := by have := Int.emod_lt_of_pos b (show (0 : Int) < n by omega); omega
 have ti : Int.tmod a n = (i : Int) := by rw [Int.tmod_eq_emod_of_nonneg ha.1]; exact hi
 have tk : Int.tmod b n = (k : Int) := by rw [Int.tmod_eq_emod_of_nonneg hb.1]; exact hk
 have hiI : (i : Int) < (n : Int) := by omega
 have hkI : (k : Int) < (n : Int) := by omega
 have ti2 : Int.tmod (IntKind.i64.wrap a) n = (i : Int) := by rw [show IntKind.i64.wrap a = a by rw [IntKind.wrap_i64]; omega]; exact ti
 have tk2 : Int.tmod (IntKind.i64.wrap b) n = (k : Int) := by rw [show IntKind.i64.wrap b = b by rw [IntKind.wrap_i64]; omega]; exact tk
 have wri : wrap64 (i : Int) = i := by unfold wrap64; omega
 have wrk : wrap64 (k : Int) = k := by unfold wrap64; omega
 have HG := good_of hbad
 obtain ⟨m, hm⟩ : ∃ m, (l.set i l[k]).set k l[i] = m := ⟨_, rfl⟩
 have hp : m.Perm l := by rw [← hm]; exact List.set_set_perm hi2 hk2
 have HO := orders hp (fun r hr => HG r (hp.subset hr))
 have mi : ∀ r ∈ m, I64 r.n := fun r hr => vi r (hp.subset hr)
 have AG : ∀ q : List Rw, (∀ r ∈ q, I64 r.n) → AgI [⟨true, q⟩] := fun q hq x hx r hr => by simp at hx; subst hx; exact hq r hr
 have hs : ∀ q : List Rw, q.length ≤ 2000 → (seen [⟨true, q⟩]).length ≤ 15000 := fun q hq => by rw [area_seen]; simp; omega
 have hml : m.length = l.length := hp.length_eq
 have CA : Hid (∀ W p n c, RdV W.heap.size W (.slice p n c) l → Calls Tryd.prog 19 #[.slice p n c] W fun e w' => ∃ p' c', e = .returned (.slice p' 1 c') ∧ RdA w'.heap.size w' (.slice p' 1 c') [⟨true, l⟩] ∧ Ext W w') := fun W p n c e => area_any l p n c W e (by omega)
 have CB : Hid (∀ W p n c, RdV W.heap.size W (.slice p n c) m → Calls Tryd.prog 19 #[.slice p n c] W fun e w' => ∃ p' c', e = .returned (.slice p' 1 c') ∧ RdA w'.heap.size w' (.slice p' 1 c') [⟨true, m⟩] ∧ Ext W w') := fun W p n c e => area_any m p n c W e (by omega)
 have Fl : Hid (∀ W v, RdA W.heap.size W v [⟨true, l⟩] → Fit W v [⟨true, l⟩]) := fun W v h => ⟨h, AG l vi, hs l (by omega), by simp⟩
 have Fm : Hid (∀ W v, RdA W.heap.size W v [⟨true, m⟩] → Fit W v [⟨true, m⟩]) := fun W v h => ⟨h, AG m mi, hs m (by omega), by simp⟩
 obtain ⟨V0, hV0⟩ : ∃ v, fSum [⟨true, l⟩] = v := ⟨_, rfl⟩
 have CL0 : Hid (∀ W p' c', Ext w W → RdA W.heap.size W (.slice p' 1 c') [⟨true, l⟩] → Calls Tryd.prog 9 #[.slice p' 1 c'] W fun e w' => e = .returned (.agg #[.int .i64 V0.k, .int .i64 V0.n, .string V0.s, .int .i64 V0.e]) ∧ Ext W w') := fun W p' c' e h => by
   have q := fsum_any _ W p' 1 c' (Fl.out W _ h) (hN.ext e)
   rw [hV0, dat_eq] at q
   exact q
 have CM0 : Hid (∀ W p' c', Ext w W → RdA W.heap.size W (.slice p' 1 c') [⟨true, m⟩] → Calls Tryd.prog 9 #[.slice p' 1 c'] W fun e w' => e = .returned (.agg #[.int .i64 V0.k, .int .i64 V0.n, .string V0.s, .int .i64 V0.e]) ∧ Ext W w') := fun W p' c' e h => by
   have q := fsum_any _ W p' 1 c' (Fm.out W _ h) (hN.ext e)
   rw [HO.1, hV0, dat_eq] at q
   exact q
 obtain ⟨V1, hV1⟩ : ∃ v, fBest ltB [⟨true, l⟩] = v := ⟨_, rfl⟩
 have CL1 : Hid (∀ W p' c', Ext w W → RdA W.heap.size W (.slice p' 1 c') [⟨true, l⟩] → Calls Tryd.prog 12 #[.slice p' 1 c'] W fun e w' => e = .returned (.agg #[.int .i64 V1.k, .int .i64 V1.n, .string V1.s, .int .i64 V1.e]) ∧ Ext W w') := fun W p' c' e h => by
   have q := fmin_any _ W p' 1 c' (Fl.out W _ h) (hN.ext e)
   rw [hV1, dat_eq] at q
   exact q
 have CM1 : Hid (∀ W p' c', Ext w W → RdA W.heap.size W (.slice p' 1 c') [⟨true, m⟩] → Calls Tryd.prog 12 #[.slice p' 1 c'] W fun e w' => e = .returned (.agg #[.int .i64 V1.k, .int .i64 V1.n, .string V1.s, .int .i64 V1.e]) ∧ Ext W w') := fun W p' c' e h => by
   have q := fmin_any _ W p' 1 c' (Fm.out W _ h) (hN.ext e)
   rw [HO.2.1, hV1, dat_eq] at q
   exact q
 obtain ⟨V2, hV2⟩ : ∃ v, fBest gtB [⟨true, l⟩] = v := ⟨_, rfl⟩
 have CL2 : Hid (∀ W p' c', Ext w W → RdA W.heap.size W (.slice p' 1 c') [⟨true, l⟩] → Calls Tryd.prog 13 #[.slice p' 1 c'] W fun e w' => e = .returned (.agg #[.int .i64 V2.k, .int .i64 V2.n, .string V2.s, .int .i64 V2.e]) ∧ Ext W w') := fun W p' c' e h => by
   have q := fmax_any _ W p' 1 c' (Fl.out W _ h) (hN.ext e)
   rw [hV2, dat_eq] at q
   exact q
 have CM2 : Hid (∀ W p' c', Ext w W → RdA W.heap.size W (.slice p' 1 c') [⟨true, m⟩] → Calls Tryd.prog 13 #[.slice p' 1 c'] W fun e w' => e = .returned (.agg #[.int .i64 V2.k, .int .i64 V2.n, .string V2.s, .int .i64 V2.e]) ∧ Ext W w') := fun W p' c' e h => by
   have q := fmax_any _ W p' 1 c' (Fm.out W _ h) (hN.ext e)
   rw [HO.2.2.1, hV2, dat_eq] at q
   exact q
 obtain ⟨V3, hV3⟩ : ∃ v, fMean [⟨true, l⟩] = v := ⟨_, rfl⟩
 have CL3 : Hid (∀ W p' c', Ext w W → RdA W.heap.size W (.slice p' 1 c') [⟨true, l⟩] → Calls Tryd.prog 14 #[.slice p' 1 c'] W fun e w' => e = .returned (.agg #[.int .i64 V3.k, .int .i64 V3.n, .string V3.s, .int .i64 V3.e]) ∧ Ext W w') := fun W p' c' e h => by
   have q := favg_any _ W p' 1 c' (Fl.out W _ h) (hN.ext e)
   rw [hV3, dat_eq] at q
   exact q
 have CM3 : Hid (∀ W p' c', Ext w W → RdA W.heap.size W (.slice p' 1 c') [⟨true, m⟩] → Calls Tryd.prog 14 #[.slice p' 1 c'] W fun e w' => e = .returned (.agg #[.int .i64 V3.k, .int .i64 V3.n, .string V3.s, .int .i64 V3.e]) ∧ Ext W w') := fun W p' c' e h => by
   have q := favg_any _ W p' 1 c' (Fm.out W _ h) (hN.ext e)
   rw [HO.2.2.2.1, hV3, dat_eq] at q
   exact q
 obtain ⟨V4, hV4⟩ : ∃ v, fCount [⟨true, l⟩] = v := ⟨_, rfl⟩
 have CL4 : Hid (∀ W p' c', Ext w W → RdA W.heap.size W (.slice p' 1 c') [⟨true, l⟩] → Calls Tryd.prog 15 #[.slice p' 1 c'] W fun e w' => e = .returned (.agg #[.int .i64 V4.k, .int .i64 V4.n, .string V4.s, .int .i64 V4.e]) ∧ Ext W w') := fun W p' c' e h => by
   have q := fcount_any _ W p' 1 c' (Fl.out W _ h) (hN.ext e)
   rw [hV4, dat_eq] at q
   exact q
 have CM4 : Hid (∀ W p' c', Ext w W → RdA W.heap.size W (.slice p' 1 c') [⟨true, m⟩] → Calls Tryd.prog 15 #[.slice p' 1 c'] W fun e w' => e = .returned (.agg #[.int .i64 V4.k, .int .i64 V4.n, .string V4.s, .int .i64 V4.e]) ∧ Ext W w') := fun W p' c' e h => by
   have q := fcount_any _ W p' 1 c' (Fm.out W _ h) (hN.ext e)
   rw [HO.2.2.2.2.1, hV4, dat_eq] at q
   exact q
 obtain ⟨V5, hV5⟩ : ∃ v, fAnd [⟨true, l⟩] = v := ⟨_, rfl⟩
 have CL5 : Hid (∀ W p' c', Ext w W → RdA W.heap.size W (.slice p' 1 c') [⟨true, l⟩] → Calls Tryd.prog 20 #[.slice p' 1 c'] W fun e w' => e = .returned (.agg #[.int .i64 V5.k, .int .i64 V5.n, .string V5.s, .int .i64 V5.e]) ∧ Ext W w') := fun W p' c' e h => by
   have q := fand_any _ W p' 1 c' (Fl.out W _ h) (hN.ext e)
   rw [hV5, dat_eq] at q
   exact q
 have CM5 : Hid (∀ W p' c', Ext w W → RdA W.heap.size W (.slice p' 1 c') [⟨true, m⟩] → Calls Tryd.prog 20 #[.slice p' 1 c'] W fun e w' => e = .returned (.agg #[.int .i64 V5.k, .int .i64 V5.n, .string V5.s, .int .i64 V5.e]) ∧ Ext W w') := fun W p' c' e h => by
   have q := fand_any _ W p' 1 c' (Fm.out W _ h) (hN.ext e)
   rw [HO.2.2.2.2.2.1, hV5, dat_eq] at q
   exact q
 obtain ⟨V6, hV6⟩ : ∃ v, fOr [⟨true, l⟩] = v := ⟨_, rfl⟩
 have CL6 : Hid (∀ W p' c', Ext w W → RdA W.heap.size W (.slice p' 1 c') [⟨true, l⟩] → Calls Tryd.prog 21 #[.slice p' 1 c'] W fun e w' => e = .returned (.agg #[.int .i64 V6.k, .int .i64 V6.n, .string V6.s, .int .i64 V6.e]) ∧ Ext W w') := fun W p' c' e h => by
   have q := for_any _ W p' 1 c' (Fl.out W _ h) (hN.ext e)
   rw [hV6, dat_eq] at q
   exact q
 have CM6 : Hid (∀ W p' c', Ext w W → RdA W.heap.size W (.slice p' 1 c') [⟨true, m⟩] → Calls Tryd.prog 21 #[.slice p' 1 c'] W fun e w' => e = .returned (.agg #[.int .i64 V6.k, .int .i64 V6.n, .string V6.s, .int .i64 V6.e]) ∧ Ext W w') := fun W p' c' e h => by
   have q := for_any _ W p' 1 c' (Fm.out W _ h) (hN.ext e)
   rw [HO.2.2.2.2.2.2, hV6, dat_eq] at q
   exact q
 generalize V0.k = V0k at *
 generalize V0.n = V0n at *
 generalize V0.s = V0s at *
 generalize V0.e = V0e at *
 generalize V1.k = V1k at *
 generalize V1.n = V1n at *
 generalize V1.s = V1s at *
 generalize V1.e = V1e at *
 generalize V2.k = V2k at *
 generalize V2.n = V2n at *
 generalize V2.s = V2s at *
 generalize V2.e = V2e at *
 generalize V3.k = V3k at *
 generalize V3.n = V3n at *
 generalize V3.s = V3s at *
 generalize V3.e = V3e at *
 generalize V4.k = V4k at *
 generalize V4.n = V4n at *
 generalize V4.s = V4s at *
 generalize V4.e = V4e at *
 generalize V5.k = V5k at *
 generalize V5.n = V5n at *
 generalize V5.s = V5s at *
 generalize V5.e = V5e at *
 generalize V6.k = V6k at *
 generalize V6.n = V6n at *
 generalize V6.s = V6s at *
 generalize V6.e = V6e at *
 have qE := eq_val
 have qG := gd_val
 have HV : Hid (RdV w.heap.size w (.slice p n c) l ∧ n = l.length ∧ n ≤ 2000) := ⟨rd, hn, by omega⟩
 have HIK : Hid (i < l.length ∧ k < l.length) := ⟨hi2, hk2⟩
 have HM : Hid (∀ W g, Lst W g l → Lst (putV (putV W g i l[k]) g k l[i]) g m) := fun W g h => by rw [← hm]; exact (h.put hi2 _).put (by simpa using hk2) _
 have HML : Hid (m.length = l.length) := hml
 obtain ⟨ri, hri⟩ : ∃ r, l[i] = r := ⟨_, rfl⟩
 obtain ⟨rk, hrk⟩ : ∃ r, l[k] = r := ⟨_, rfl⟩
 have HI : Hid (l[i]? = some ri ∧ l[k]? = some rk) := ⟨by rw [← hri]; exact List.getElem?_eq_getElem hi2, by rw [← hrk]; exact List.getElem?_eq_getElem hk2⟩
 rw [hri, hrk] at HM
 clear rd vi vm hn hl ti tk ha hb hbad hi hk hi2 hk2 HG hm hp HO mi AG hs hml hV0 hV1 hV2 hV3 hV4 hV5 hV6 hri hrk
 go_enter Tryd.func5, Tryd.ntmps5
 go_wp2_with fail
 refine (cE _ HV.out.1).mono ?_
 rintro e w1 ⟨rfl, rfl⟩
 go_wp2_with (at_builtin; refine own_app eltV _ w1 _ _ _ _ 0 l.length [] (l.flatMap cV) w1.heap.size rfl rfl (by rfl) (by rfl) (own_new w1 w1 (Nat.le_refl _)) (HV.out.1.low ((Ext.refl _).alloc _)).row (cV_one l) (by unfold maxLen; have := HV.out.2; omega) (by have := HV.out.2; omega) ((Ext.refl _).alloc _) (Nat.le_refl _) (by simp) ?_; intro v' W' k1 k2 _; rw [Nat.zero_add, List.nil_append] at k1; obtain ⟨g, cap, rfl, hcap⟩ : ∃ g cap, v' = .slice (some ⟨g, 0, none⟩) l.length cap ∧ l.length ≤ cap := (by rcases k1.2 with ⟨_, h0⟩ | ⟨g, cap, _, h, _, _, h4, _⟩; (exact absurd h0 (by have := HIK.out.1; omega)); exact ⟨g, cap, h, h4⟩); have HL : Hid (Lst W' g l ∧ w1.heap.size ≤ g) := ⟨own_lst k1, (k1.lt g rfl).1⟩; have HC : Hid (l.length ≤ cap ∧ Ext w1 W') := ⟨hcap, k2⟩; clear k1 k2 hcap)
 rw [← HV.out.2.1]
 obtain ⟨ai, bi, ci, di⟩ := HL.out.1.c i ri HI.out.1
 obtain ⟨ak, bk, ck, dk⟩ := HL.out.1.c k rk HI.out.2
 have fz := HL.out.1.f
 have gz := HL.out.1.z
 have s0 : (W'.setCell ⟨g, i * 4, none⟩ (.int .i64 rk.k)).cell? ⟨g, k * 4, none⟩ = some (.int .i64 rk.k) := by
   by_cases e : i = k
   · subst e
     apply World.cell?_setCell_same
     exact ai
   · rw [World.cell?_setCell_other _ _ _ _ (by first | (simp; done) | (simp; omega))]
     exact ak
 have s1 : ((W'.setCell ⟨g, i * 4, none⟩ (.int .i64 rk.k)).setCell ⟨g, i * 4 + 1, none⟩ (.int .i64 rk.n)).cell? ⟨g, k * 4 + 1, none⟩ = some (.int .i64 rk.n) := by
   by_cases e : i = k
   · subst e
     apply World.cell?_setCell_same
     rw [World.cell?_setCell_other _ _ _ _ (by first | (simp; done) | (simp; omega))]; exact bi
   · rw [World.cell?_setCell_other _ _ _ _ (by first | (simp; done) | (simp; omega))]; rw [World.cell?_setCell_other _ _ _ _ (by first | (simp; done) | (simp; omega))]
     exact bk
 have s2 : (((W'.setCell ⟨g, i * 4, none⟩ (.int .i64 rk.k)).setCell ⟨g, i * 4 + 1, none⟩ (.int .i64 rk.n)).setCell ⟨g, i * 4 + 2, none⟩ (.string rk.s)).cell? ⟨g, k * 4 + 2, none⟩ = some (.string rk.s) := by
   by_cases e : i = k
   · subst e
     apply World.cell?_setCell_same
     rw [World.cell?_setCell_other _ _ _ _ (by first | (simp; done) | (simp; omega))]; rw [World.cell?_setCell_other _ _ _ _ (by first | (simp; done) | (simp; omega))]; exact ci
   · rw [World.cell?_setCell_other _ _ _ _ (by first | (simp; done) | (simp; omega))]; rw [World.cell?_setCell_other _ _ _ _ (by first | (simp; done) | (simp; omega))]; rw [World.cell?_setCell_other _ _ _ _ (by first | (simp; done) | (simp; omega))]
     exact ck
 have s3 : ((((W'.setCell ⟨g, i * 4, none⟩ (.int .i64 rk.k)).setCell ⟨g, i * 4 + 1, none⟩ (.int .i64 rk.n)).setCell ⟨g, i * 4 + 2, none⟩ (.string rk.s)).setCell ⟨g, i * 4 + 3, none⟩ (.int .i64 rk.e)).cell? ⟨g, k * 4 + 3, none⟩ = some (.int .i64 rk.e) := by
   by_cases e : i = k
   · subst e
     apply World.cell?_setCell_same
     rw [World.cell?_setCell_other _ _ _ _ (by first | (simp; done) | (simp; omega))]; rw [World.cell?_setCell_other _ _ _ _ (by first | (simp; done) | (simp; omega))]; rw [World.cell?_setCell_other _ _ _ _ (by first | (simp; done) | (simp; omega))]; exact di
   · rw [World.cell?_setCell_other _ _ _ _ (by first | (simp; done) | (simp; omega))]; rw [World.cell?_setCell_other _ _ _ _ (by first | (simp; done) | (simp; omega))]; rw [World.cell?_setCell_other _ _ _ _ (by first | (simp; done) | (simp; omega))]; rw [World.cell?_setCell_other _ _ _ _ (by first | (simp; done) | (simp; omega))]
     exact dk
 refine wp_region_held_drew (S := (fun V => Ext W' V)) (by kernel_rfl) ?_ (fun hHeld0 => ?_)
 · (first | assumption | exact Ext.refl _ | exact (Ext.refl _).drew | ((with_reducible (repeat (first | assumption | exact Ext.refl _ | apply Ext.alloc | apply Ext.drew | apply Ext.drewN))); done))
 refine wpAnyH_take (i := 0) (oi := ⟨some 26, .move (.tmp 1), 37, "law.go:83", #[], none⟩) (v := ?_) rfl (by kernel_rfl) (by kernel_rfl) (by kernel_rfl) (fun _ _ _ h => h) (Or.inl ⟨by rfl, ?_⟩) (by assumption) ?_
 rotate_left
 · intro w hSw; (try dsimp only at hSw); first | (go_simp; done) | (go_simp; with_reducible rfl)
 try simp only [Act.put, List.setIfInBounds_toArray, List.set_cons_zero, List.set_cons_succ]
 refine wpAnyH_take (i := 1) (oi := ⟨some 27, .convert 37 3 (.tmp 26), 3, "law.go:83", #[⟨0, .data⟩], none⟩) (v := ?_) rfl (by kernel_rfl) (by kernel_rfl) (by kernel_rfl) (fun _ _ _ h => h) (Or.inl ⟨by rfl, ?_⟩) (by assumption) ?_
 rotate_left
 · intro w hSw; (try dsimp only at hSw); first | (go_simp; done) | (go_simp; with_reducible rfl)
 try simp only [Act.put, List.setIfInBounds_toArray, List.set_cons_zero, List.set_cons_succ]
 refine wpAnyH_take (i := 2) (oi := ⟨some 28, .move (.tmp 0), 36, "law.go:83", #[], none⟩) (v := ?_) rfl (by kernel_rfl) (by kernel_rfl) (by kernel_rfl) (fun _ _ _ h => h) (Or.inl ⟨by rfl, ?_⟩) (by assumption) ?_
 rotate_left
 · intro w hSw; (try dsimp only at hSw); first | (go_simp; done) | (go_simp; with_reducible rfl)
 try simp only [Act.put, List.setIfInBounds_toArray, List.set_cons_zero, List.set_cons_succ]
 refine wpAnyH_take (i := 3) (oi := ⟨some 29, .call { callee := .builtin .len, args := #[.tmp 28], argTypes := #[36] }, 3, "law.go:83", #[⟨2, .data⟩], none⟩) (v := ?_) rfl (by kernel_rfl) (by kernel_rfl) (by kernel_rfl) (fun _ _ _ h => h) (Or.inl ⟨by rfl, ?_⟩) (by assumption) ?_
 rotate_left
 · intro w hSw; (try dsimp only at hSw); first | (go_simp; done) | (go_simp; with_reducible rfl)
 try simp only [Act.put, List.setIfInBounds_toArray, List.set_cons_zero, List.set_cons_succ]
 refine wpAnyH_take (i := 4) (oi := ⟨some 30, .binOp .rem 3 (.tmp 27) (.tmp 29) 3, 3, "law.go:83", #[⟨1, .data⟩, ⟨3, .data⟩], none⟩) (v := ?_) rfl (by kernel_rfl) (by kernel_rfl) (by kernel_rfl) (fun _ _ _ h => h) (Or.inl ⟨by rfl, ?_⟩) (by assumption) ?_
 rotate_left
 · intro w hSw; (try dsimp only at hSw); first | (go_simp; done) | (go_simp; with_reducible rfl)
 try simp only [Act.put, List.setIfInBounds_toArray, List.set_cons_zero, List.set_cons_succ]
 refine wpAnyH_take (i := 5) (oi := ⟨some 31, .move (.tmp 2), 37, "law.go:83", #[{ on := 10, ground := Ground.gcOnly Departure.lateStores }], none⟩) (v := ?_) rfl (by kernel_rfl) (by kernel_rfl) (by kernel_rfl) (fun _ _ _ h => h) (Or.inl ⟨by rfl, ?_⟩) (by assumption) ?_
 rotate_left
 · intro w hSw; (try dsimp only at hSw); first | (go_simp; done) | (go_simp; with_reducible rfl)
 try simp only [Act.put, List.setIfInBounds_toArray, List.set_cons_zero, List.set_cons_succ]
 refine wpAnyH_take (i := 6) (oi := ⟨some 32, .convert 37 3 (.tmp 31), 3, "law.go:83", #[⟨5, .data⟩, { on := 10, ground := Ground.gcOnly Departure.lateStores }], none⟩) (v := ?_) rfl (by kernel_rfl) (by kernel_rfl) (by kernel_rfl) (fun _ _ _ h => h) (Or.inl ⟨by rfl, ?_⟩) (by assumption) ?_
 rotate_left
 · intro w hSw; (try dsimp only at hSw); first | (go_simp; done) | (go_simp; with_reducible rfl)
 try simp only [Act.put, List.setIfInBounds_toArray, List.set_cons_zero, List.set_cons_succ]
 refine wpAnyH_take (i := 7) (oi := ⟨some 33, .move (.tmp 0), 36, "law.go:83", #[], none⟩) (v := ?_) rfl (by kernel_rfl) (by kernel_rfl) (by kernel_rfl) (fun _ _ _ h => h) (Or.inl ⟨by rfl, ?_⟩) (by assumption) ?_
 rotate_left
 · intro w hSw; (try dsimp only at hSw); first | (go_simp; done) | (go_simp; with_reducible rfl)
 try simp only [Act.put, List.setIfInBounds_toArray, List.set_cons_zero, List.set_cons_succ]
 refine wpAnyH_take (i := 8) (oi := ⟨some 34, .call { callee := .builtin .len, args := #[.tmp 33], argTypes := #[36] }, 3, "law.go:83", #[⟨7, .data⟩], none⟩) (v := ?_) rfl (by kernel_rfl) (by kernel_rfl) (by kernel_rfl) (fun _ _ _ h => h) (Or.inl ⟨by rfl, ?_⟩) (by assumption) ?_
 rotate_left
 · intro w hSw; (try dsimp only at hSw); first | (go_simp; done) | (go_simp; with_reducible rfl)
 try simp only [Act.put, List.setIfInBounds_toArray, List.set_cons_zero, List.set_cons_succ]
 refine wpAnyH_take (i := 9) (oi := ⟨some 35, .binOp .rem 3 (.tmp 32) (.tmp 34) 3, 3, "law.go:83", #[⟨6, .data⟩, ⟨8, .data⟩, { on := 10, ground := Ground.gcOnly Departure.lateStores }], none⟩) (v := ?_) rfl (by kernel_rfl) (by kernel_rfl) (by kernel_rfl) (fun _ _ _ h => h) (Or.inl ⟨by rfl, ?_⟩) (by assumption) ?_
 rotate_left
 · intro w hSw; (try dsimp only at hSw); first | (go_simp; done) | (go_simp; with_reducible rfl)
 try simp only [Act.put, List.setIfInBounds_toArray, List.set_cons_zero, List.set_cons_succ]
 refine wpAnyH_take (i := 10) (oi := ⟨some 8, .assign (.tmp 30), 3, "law.go:83", #[⟨4, .data⟩, ⟨0, .phase⟩, ⟨1, .phase⟩, ⟨2, .phase⟩, ⟨3, .phase⟩, ⟨4, .phase⟩, { on := 5, ground := Ground.textOnly Departure.lateStores }, { on := 6, ground := Ground.textOnly Departure.lateStores }, { on := 7, ground := Ground.textOnly Departure.lateStores }, { on := 8, ground := Ground.textOnly Departure.lateStoresUnsure }, { on := 9, ground := Ground.textOnly Departure.lateStores }], none⟩) (v := ?_) rfl (by kernel_rfl) (by kernel_rfl) (by kernel_rfl) (fun _ _ _ h => h) (Or.inl ⟨by rfl, ?_⟩) (by assumption) ?_
 rotate_left
 · intro w hSw; (try dsimp only at hSw); first | (go_simp; done) | (go_simp; with_reducible rfl)
 try simp only [Act.put, List.setIfInBounds_toArray, List.set_cons_zero, List.set_cons_succ]
 refine wpAnyH_take (i := 11) (oi := ⟨some 9, .assign (.tmp 35), 3, "law.go:83", #[⟨9, .data⟩, ⟨10, .chain⟩, ⟨0, .phase⟩, ⟨1, .phase⟩, ⟨2, .phase⟩, ⟨3, .phase⟩, ⟨4, .phase⟩, ⟨5, .phase⟩, ⟨6, .phase⟩, ⟨7, .phase⟩, ⟨8, .phase⟩, ⟨9, .phase⟩, ⟨10, .phase⟩], none⟩) (v := ?_) rfl (by kernel_rfl) (by kernel_rfl) (by kernel_rfl) (fun _ _ _ h => h) (Or.inl ⟨by rfl, ?_⟩) (by assumption) ?_
 rotate_left
 · intro w hSw; (try dsimp only at hSw); first | (go_simp; done) | (go_simp; with_reducible rfl)
 try simp only [Act.put, List.setIfInBounds_toArray, List.set_cons_zero, List.set_cons_succ]
 refine wpAnyH_done (by kernel_rfl) ?_ _
 go_wp2_with fail
 go_region
 clear s0 s1 s2 s3 ai bi ci di ak bk ck dk fz gz
 generalize hW5 : World.drew _ = W5
 have HL5 : Hid (Lst W5 g m ∧ Ext w1 W5) := by
   rw [← hW5]
   refine ⟨?_, ?_⟩
   · exact ((HM.out W' g HL.out.1).ext (Ext.refl _).drew).ext (Ext.refl _).drew
   · have := HL.out.2
     exact Ext.drew (Ext.drew ((((((((HC.out.2.setCell this _).setCell this _).setCell this _).setCell this _).setCell this _).setCell this _).setCell this _).setCell this _))
 have X5 : Ext w1 W5 := HL5.out.2
 clear hW5 ti2 tk2 hiI hkI wri wrk h0 e0
 go_wp2_with fail
 refine (CA.out _ _ _ _ (HV.out.1.to (Nat.le_refl _) (by with_reducible repeat (first | assumption | exact Ext.refl _ | apply Ext.alloc | apply Ext.drew | apply Ext.drewN | (refine Ext.setCell ?_ (by simp) _))))).mono ?_
 rintro e w10 ⟨p10, c10', rfl, R10, E10⟩
 have X10 : Ext w1 w10 := Ext.trans (by with_reducible repeat (first | assumption | exact Ext.refl _ | apply Ext.alloc | apply Ext.drew | apply Ext.drewN | (refine Ext.setCell ?_ (by simp) _))) E10
 have Y10 : Hid (Ext W5 w10) := (Ext.refl W5).trans E10
 have HR10 : Hid (RdA w10.heap.size w10 (.slice p10 1 c10') [⟨true, l⟩]) := R10
 clear E10 R10 X5
 go_wp2_with fail
 refine (CL0.out _ _ _ X10 HR10.out).mono ?_
 rintro e w11 ⟨rfl, E11⟩
 have X11 : Ext w1 w11 := X10.trans E11
 have Y11 : Hid (Ext W5 w11) := Y10.out.trans E11
 clear E11 X10
 go_wp2_with fail
 refine (CB.out _ _ _ _ ((HL5.out.1.ext (by with_reducible repeat (first | exact Ext.refl _ | assumption | exact Y11.out))).rd (HV.out.2.1.trans HML.out.symm) (by have := HC.out.1; have := HV.out.2.1; omega))).mono ?_
 rintro e w12 ⟨p12, c12', rfl, R12, E12⟩
 have X12 : Ext w1 w12 := Ext.trans (by with_reducible repeat (first | assumption | exact Ext.refl _ | apply Ext.alloc | apply Ext.drew | apply Ext.drewN | (refine Ext.setCell ?_ (by simp) _))) E12
 have Y12 : Hid (Ext W5 w12) := Y11.out.trans E12
 have HR12 : Hid (RdA w12.heap.size w12 (.slice p12 1 c12') [⟨true, m⟩]) := R12
 clear E12 R12 X11
 go_wp2_with fail
 refine (CM0.out _ _ _ X12 HR12.out).mono ?_
 rintro e w13 ⟨rfl, E13⟩
 have X13 : Ext w1 w13 := X12.trans E13
 have Y13 : Hid (Ext W5 w13) := Y12.out.trans E13
 clear E13 X12
 go_wp2_with fail
 refine (CA.out _ _ _ _ (HV.out.1.to (Nat.le_refl _) (by with_reducible repeat (first | assumption | exact Ext.refl _ | apply Ext.alloc | apply Ext.drew | apply Ext.drewN | (refine Ext.setCell ?_ (by simp) _))))).mono ?_
 rintro e w14 ⟨p14, c14', rfl, R14, E14⟩
 have X14 : Ext w1 w14 := Ext.trans (by with_reducible repeat (first | assumption | exact Ext.refl _ | apply Ext.alloc | apply Ext.drew | apply Ext.drewN | (refine Ext.setCell ?_ (by simp) _))) E14
 have Y14 : Hid (Ext W5 w14) := Y13.out.trans E14
 have HR14 : Hid (RdA w14.heap.size w14 (.slice p14 1 c14') [⟨true, l⟩]) := R14
 clear E14 R14 X13
 go_wp2_with fail
 refine (CL1.out _ _ _ X14 HR14.out).mono ?_
 rintro e w15 ⟨rfl, E15⟩
 have X15 : Ext w1 w15 := X14.trans E15
 have Y15 : Hid (Ext W5 w15) := Y14.out.trans E15
 clear E15 X14
 go_wp2_with fail
 refine (CB.out _ _ _ _ ((HL5.out.1.ext (by with_reducible repeat (first | exact Ext.refl _ | assumption | exact Y15.out))).rd (HV.out.2.1.trans HML.out.symm) (by have := HC.out.1; have := HV.out.2.1; omega))).mono ?_
 rintro e w16 ⟨p16, c16', rfl, R16, E16⟩
 have X16 : Ext w1 w16 := Ext.trans (by with_reducible repeat (first | assumption | exact Ext.refl _ | apply Ext.alloc | apply Ext.drew | apply Ext.drewN | (refine Ext.setCell ?_ (by simp) _))) E16
 have Y16 : Hid (Ext W5 w16) := Y15.out.trans E16
 have HR16 : Hid (RdA w16.heap.size w16 (.slice p16 1 c16') [⟨true, m⟩]) := R16
 clear E16 R16 X15
 go_wp2_with fail
 refine (CM1.out _ _ _ X16 HR16.out).mono ?_
 rintro e w17 ⟨rfl, E17⟩
 have X17 : Ext w1 w17 := X16.trans E17
 have Y17 : Hid (Ext W5 w17) := Y16.out.trans E17
 clear E17 X16
 go_wp2_with fail
 refine (CA.out _ _ _ _ (HV.out.1.to (Nat.le_refl _) (by with_reducible repeat (first | assumption | exact Ext.refl _ | apply Ext.alloc | apply Ext.drew | apply Ext.drewN | (refine Ext.setCell ?_ (by simp) _))))).mono ?_
 rintro e w18 ⟨p18, c18', rfl, R18, E18⟩
 have X18 : Ext w1 w18 := Ext.trans (by with_reducible repeat (first | assumption | exact Ext.refl _ | apply Ext.alloc | apply Ext.drew | apply Ext.drewN | (refine Ext.setCell ?_ (by simp) _))) E18
 have Y18 : Hid (Ext W5 w18) := Y17.out.trans E18
 have HR18 : Hid (RdA w18.heap.size w18 (.slice p18 1 c18') [⟨true, l⟩]) := R18
 clear E18 R18 X17
 go_wp2_with fail
 refine (CL2.out _ _ _ X18 HR18.out).mono ?_
 rintro e w19 ⟨rfl, E19⟩
 have X19 : Ext w1 w19 := X18.trans E19
 have Y19 : Hid (Ext W5 w19) := Y18.out.trans E19
 clear E19 X18
 go_wp2_with fail
 refine (CB.out _ _ _ _ ((HL5.out.1.ext (by with_reducible repeat (first | exact Ext.refl _ | assumption | exact Y19.out))).rd (HV.out.2.1.trans HML.out.symm) (by have := HC.out.1; have := HV.out.2.1; omega))).mono ?_
 rintro e w20 ⟨p20, c20', rfl, R20, E20⟩
 have X20 : Ext w1 w20 := Ext.trans (by with_reducible repeat (first | assumption | exact Ext.refl _ | apply Ext.alloc | apply Ext.drew | apply Ext.drewN | (refine Ext.setCell ?_ (by simp) _))) E20
 have Y20 : Hid (Ext W5 w20) := Y19.out.trans E20
 have HR20 : Hid (RdA w20.heap.size w20 (.slice p20 1 c20') [⟨true, m⟩]) := R20
 clear E20 R20 X19
 go_wp2_with fail
 refine (CM2.out _ _ _ X20 HR20.out).mono ?_
 rintro e w21 ⟨rfl, E21⟩
 have X21 : Ext w1 w21 := X20.trans E21
 have Y21 : Hid (Ext W5 w21) := Y20.out.trans E21
 clear E21 X20
 go_wp2_with fail
 refine (CA.out _ _ _ _ (HV.out.1.to (Nat.le_refl _) (by with_reducible repeat (first | assumption | exact Ext.refl _ | apply Ext.alloc | apply Ext.drew | apply Ext.drewN | (refine Ext.setCell ?_ (by simp) _))))).mono ?_
 rintro e w22 ⟨p22, c22', rfl, R22, E22⟩
 have X22 : Ext w1 w22 := Ext.trans (by with_reducible repeat (first | assumption | exact Ext.refl _ | apply Ext.alloc | apply Ext.drew | apply Ext.drewN | (refine Ext.setCell ?_ (by simp) _))) E22
 have Y22 : Hid (Ext W5 w22) := Y21.out.trans E22
 have HR22 : Hid (RdA w22.heap.size w22 (.slice p22 1 c22') [⟨true, l⟩]) := R22
 clear E22 R22 X21
 go_wp2_with fail
 refine (CL3.out _ _ _ X22 HR22.out).mono ?_
 rintro e w23 ⟨rfl, E23⟩
 have X23 : Ext w1 w23 := X22.trans E23
 have Y23 : Hid (Ext W5 w23) := Y22.out.trans E23
 clear E23 X22
 go_wp2_with fail
 refine (CB.out _ _ _ _ ((HL5.out.1.ext (by with_reducible repeat (first | exact Ext.refl _ | assumption | exact Y23.out))).rd (HV.out.2.1.trans HML.out.symm) (by have := HC.out.1; have := HV.out.2.1; omega))).mono ?_
 rintro e w24 ⟨p24, c24', rfl, R24, E24⟩
 have X24 : Ext w1 w24 := Ext.trans (by with_reducible repeat (first | assumption | exact Ext.refl _ | apply Ext.alloc | apply Ext.drew | apply Ext.drewN | (refine Ext.setCell ?_ (by simp) _))) E24
 have Y24 : Hid (Ext W5 w24) := Y23.out.trans E24
 have HR24 : Hid (RdA w24.heap.size w24 (.slice p24 1 c24') [⟨true, m⟩]) := R24
 clear E24 R24 X23
 go_wp2_with fail
 refine (CM3.out _ _ _ X24 HR24.out).mono ?_
 rintro e w25 ⟨rfl, E25⟩
 have X25 : Ext w1 w25 := X24.trans E25
 have Y25 : Hid (Ext W5 w25) := Y24.out.trans E25
 clear E25 X24
 go_wp2_with fail
 refine (CA.out _ _ _ _ (HV.out.1.to (Nat.le_refl _) (by with_reducible repeat (first | assumption | exact Ext.refl _ | apply Ext.alloc | apply Ext.drew | apply Ext.drewN | (refine Ext.setCell ?_ (by simp) _))))).mono ?_
 rintro e w26 ⟨p26, c26', rfl, R26, E26⟩
 have X26 : Ext w1 w26 := Ext.trans (by with_reducible repeat (first | assumption | exact Ext.refl _ | apply Ext.alloc | apply Ext.drew | apply Ext.drewN | (refine Ext.setCell ?_ (by simp) _))) E26
 have Y26 : Hid (Ext W5 w26) := Y25.out.trans E26
 have HR26 : Hid (RdA w26.heap.size w26 (.slice p26 1 c26') [⟨true, l⟩]) := R26
 clear E26 R26 X25
 go_wp2_with fail
 refine (CL4.out _ _ _ X26 HR26.out).mono ?_
 rintro e w27 ⟨rfl, E27⟩
 have X27 : Ext w1 w27 := X26.trans E27
 have Y27 : Hid (Ext W5 w27) := Y26.out.trans E27
 clear E27 X26
 go_wp2_with fail
 refine (CB.out _ _ _ _ ((HL5.out.1.ext (by with_reducible repeat (first | exact Ext.refl _ | assumption | exact Y27.out))).rd (HV.out.2.1.trans HML.out.symm) (by have := HC.out.1; have := HV.out.2.1; omega))).mono ?_
 rintro e w28 ⟨p28, c28', rfl, R28, E28⟩
 have X28 : Ext w1 w28 := Ext.trans (by with_reducible repeat (first | assumption | exact Ext.refl _ | apply Ext.alloc | apply Ext.drew | apply Ext.drewN | (refine Ext.setCell ?_ (by simp) _))) E28
 have Y28 : Hid (Ext W5 w28) := Y27.out.trans E28
 have HR28 : Hid (RdA w28.heap.size w28 (.slice p28 1 c28') [⟨true, m⟩]) := R28
 clear E28 R28 X27
 go_wp2_with fail
 refine (CM4.out _ _ _ X28 HR28.out).mono ?_
 rintro e w29 ⟨rfl, E29⟩
 have X29 : Ext w1 w29 := X28.trans E29
 have Y29 : Hid (Ext W5 w29) := Y28.out.trans E29
 clear E29 X28
 go_wp2_with fail
 refine (CA.out _ _ _ _ (HV.out.1.to (Nat.le_refl _) (by with_reducible repeat (first | assumption | exact Ext.refl _ | apply Ext.alloc | apply Ext.drew | apply Ext.drewN | (refine Ext.setCell ?_ (by simp) _))))).mono ?_
 rintro e w30 ⟨p30, c30', rfl, R30, E30⟩
 have X30 : Ext w1 w30 := Ext.trans (by with_reducible repeat (first | assumption | exact Ext.refl _ | apply Ext.alloc | apply Ext.drew | apply Ext.drewN | (refine Ext.setCell ?_ (by simp) _))) E30
 have Y30 : Hid (Ext W5 w30) := Y29.out.trans E30
 have HR30 : Hid (RdA w30.heap.size w30 (.slice p30 1 c30') [⟨true, l⟩]) := R30
 clear E30 R30 X29
 go_wp2_with fail
 refine (CL5.out _ _ _ X30 HR30.out).mono ?_
 rintro e w31 ⟨rfl, E31⟩
 have X31 : Ext w1 w31 := X30.trans E31
 have Y31 : Hid (Ext W5 w31) := Y30.out.trans E31
 clear E31 X30
 go_wp2_with fail
 refine (CB.out _ _ _ _ ((HL5.out.1.ext (by with_reducible repeat (first | exact Ext.refl _ | assumption | exact Y31.out))).rd (HV.out.2.1.trans HML.out.symm) (by have := HC.out.1; have := HV.out.2.1; omega))).mono ?_
 rintro e w32 ⟨p32, c32', rfl, R32, E32⟩
 have X32 : Ext w1 w32 := Ext.trans (by with_reducible repeat (first | assumption | exact Ext.refl _ | apply Ext.alloc | apply Ext.drew | apply Ext.drewN | (refine Ext.setCell ?_ (by simp) _))) E32
 have Y32 : Hid (Ext W5 w32) := Y31.out.trans E32
 have HR32 : Hid (RdA w32.heap.size w32 (.slice p32 1 c32') [⟨true, m⟩]) := R32
 clear E32 R32 X31
 go_wp2_with fail
 refine (CM5.out _ _ _ X32 HR32.out).mono ?_
 rintro e w33 ⟨rfl, E33⟩
 have X33 : Ext w1 w33 := X32.trans E33
 have Y33 : Hid (Ext W5 w33) := Y32.out.trans E33
 clear E33 X32
 go_wp2_with fail
 refine (CA.out _ _ _ _ (HV.out.1.to (Nat.le_refl _) (by with_reducible repeat (first | assumption | exact Ext.refl _ | apply Ext.alloc | apply Ext.drew | apply Ext.drewN | (refine Ext.setCell ?_ (by simp) _))))).mono ?_
 rintro e w34 ⟨p34, c34', rfl, R34, E34⟩
 have X34 : Ext w1 w34 := Ext.trans (by with_reducible repeat (first | assumption | exact Ext.refl _ | apply Ext.alloc | apply Ext.drew | apply Ext.drewN | (refine Ext.setCell ?_ (by simp) _))) E34
 have Y34 : Hid (Ext W5 w34) := Y33.out.trans E34
 have HR34 : Hid (RdA w34.heap.size w34 (.slice p34 1 c34') [⟨true, l⟩]) := R34
 clear E34 R34 X33
 go_wp2_with fail
 refine (CL6.out _ _ _ X34 HR34.out).mono ?_
 rintro e w35 ⟨rfl, E35⟩
 have X35 : Ext w1 w35 := X34.trans E35
 have Y35 : Hid (Ext W5 w35) := Y34.out.trans E35
 clear E35 X34
 go_wp2_with fail
 refine (CB.out _ _ _ _ ((HL5.out.1.ext (by with_reducible repeat (first | exact Ext.refl _ | assumption | exact Y35.out))).rd (HV.out.2.1.trans HML.out.symm) (by have := HC.out.1; have := HV.out.2.1; omega))).mono ?_
 rintro e w36 ⟨p36, c36', rfl, R36, E36⟩
 have X36 : Ext w1 w36 := Ext.trans (by with_reducible repeat (first | assumption | exact Ext.refl _ | apply Ext.alloc | apply Ext.drew | apply Ext.drewN | (refine Ext.setCell ?_ (by simp) _))) E36
 have Y36 : Hid (Ext W5 w36) := Y35.out.trans E36
 have HR36 : Hid (RdA w36.heap.size w36 (.slice p36 1 c36') [⟨true, m⟩]) := R36
 clear E36 R36 X35
 go_wp2_with fail
 refine (CM6.out _ _ _ X36 HR36.out).mono ?_
 rintro e w37 ⟨rfl, E37⟩
 have X37 : Ext w1 w37 := X36.trans E37
 have Y37 : Hid (Ext W5 w37) := Y36.out.trans E37
 clear E37 X36
 go_wp2_with fail
 refine (c0 _ (hN.ext X37)).mono ?_
 rintro e w90 ⟨rfl, E90⟩
 have X90 : Ext w1 w90 := X37.trans E90
 go_wp2_with fail
 go_ret
 exact ⟨rfl, X90⟩

theorem laidOut : laidOutB Tryd.prog = true := by kernel_rfl
set_option maxRecDepth 100000 in
theorem contract (H : Type) (enc : TypeId × Value → H) (W : World) (base : Nat) (args : Array Value) (ds gs : List (DataW H)) (before : List MemPlace)
   (hval0 : ∀ (j : Nat) t v, Tryd.f5.params[j]? = some t → args[j]? = some v → Value.okWide Tryd.prog W .any base t v)
   (hW : DataW.Whole enc Tryd.prog Tryd.f5.params.toList Rows.foldOrdersSpec.vars false W args.toList ds gs before) (hL : laidMetH Tryd.prog Rows.foldOrdersRow.laid W) :
   Calls Tryd.prog 5 args W fun e W' => ∃ v, e = .returned v ∧ Rows.foldOrdersSpec.post enc Tryd.prog Tryd.f5 false true false false W args v W' := by
 have hval := hval0
 have hW' := hW
 obtain ⟨p, q, hA0, hV, rfl, hfz, hnd⟩ := hW'
 have hA : DataW.TrodAll enc Tryd.prog W 0 (fun _ => true) true Tryd.f5.params.toList args.toList ds p := hA0
 rw [Tryd.params5] at hA hval
 obtain ⟨v0, vs0, d0, ds0, p0, q0, hargs, rfl, rfl, h0, r0⟩ := trodAll_cons hA
 obtain ⟨v1, vs1, d1, ds1, p1, q1, rfl, rfl, rfl, h1, r1⟩ := trodAll_cons r0
 obtain ⟨v2, vs2, d2, ds2, p2, q2, rfl, rfl, rfl, h2, r2⟩ := trodAll_cons r1
 obtain ⟨rfl, rfl, rfl⟩ := trodAll_nil r2
 obtain rfl : args = #[v0, v1, v2] := by cases args; simp_all
 obtain ⟨rfl, rfl⟩ := trodVars_none hV
 have j0 := h0
 have lt0 : ∀ x ∈ p0, x.block < W.heap.size := by obtain ⟨m, hm⟩ := j0; exact DataW.trod_lt m _ _ _ hm
 obtain ⟨pp0, ln0, cl0, rfl⟩ := okWide_slice Tryd.underlying36 (hval 0 36 v0 rfl rfl)
 obtain ⟨l0, rd0, vi0, vm0⟩ : ∃ l, RdV W.heap.size W (.slice pp0 ln0 cl0) l ∧ (∀ r ∈ l, I64 r.n) ∧ l.length ≤ maxLen := by
   obtain ⟨fuel, hf⟩ := h0
   exact open_vals hf
 obtain ⟨a1, rfl, rfl, rfl, w1⟩ := open_int Tryd.underlying37 (hval 1 37 v1 rfl rfl) h1
 obtain ⟨a2, rfl, rfl, rfl, w2⟩ := open_int Tryd.underlying37 (hval 2 37 v2 rfl rfl) h2
 clear hA0 hval0
 refine (walk l0 pp0 ln0 cl0 a1 a2 W rd0 vi0 vm0 w1 w2 (nm_ofN hL)).mono fun e W' ⟨he, bel⟩ => ?_
 subst he
 exact ⟨_, rfl, _, _, _, [], _, [], hW, trodAll_mk1 (shut_bool Tryd.underlying4 _), (trodAll_cons_mk (Below.trod laidOut (by kernel_rfl) (of_decide_eq_true (by kernel_rfl)) j0 bel lt0) (trodAll_cons_mk (shut_int Tryd.underlying37 w1) (trodAll_cons_mk (shut_int Tryd.underlying37 w2) trodAll_mk0))), rfl, Below.frame bel _, fun h => by cases h⟩

theorem laid_met (os : Os) : laidMet Tryd.prog Rows.foldOrdersRow.laid ((laidWorldN os).forCall (fun _ _ => 0) ⟨#[], #[.slice none 0 0, .int .u16 0, .int .u16 0], []⟩).memory :=
 laidMet_of_run' 8 (by kernel_rfl) (by kernel_rfl)
theorem reads (os : Os) {H : Type} (enc : TypeId × Value → H) : ∃ places, DataW.whole enc Tryd.prog ((laidWorldN os).forCall (fun _ _ => 0) ⟨#[], #[.slice none 0 0, .int .u16 0, .int .u16 0], []⟩).memory Tryd.f5.params.toList Rows.foldOrdersSpec.vars false (#[.slice none 0 0, .int .u16 0, .int .u16 0] : Array Value).toList 8 = some ([.nil, .lit (.int .u16 0), .lit (.int .u16 0)], [], places) :=
 ⟨[], by kernel_rfl⟩

set_option maxRecDepth 100000 in
theorem lifted (os : Os) (started : os.Started) (H : Type) (enc : TypeId × Value → H) (F : Stop.Interp) :
   ReturnsInHanded {} Tryd.checked os 5 .any ((OpenSpec.ofChange Rows.foldOrdersSpec).preRow enc Tryd.prog Tryd.f5 Rows.foldOrdersRow.domain false Rows.foldOrdersRow.laid) (((OpenSpec.ofChange Rows.foldOrdersSpec).at F).post enc Tryd.prog Tryd.f5 false true false false) := by
 obtain ⟨places, hx⟩ := reads os enc
 refine returnsInHanded_of_row (C := Tryd.checked) (s := OpenSpec.ofChange Rows.foldOrdersSpec) ownK started (by kernel_rfl) Tryd.func5
   (witness_row_at (enc := enc) (C := Tryd.checked) false (laidWorldN os) #[.slice none 0 0, .int .u16 0, .int .u16 0] rfl (by kernel_rfl) (by kernel_rfl) (by kernel_rfl)
     (OpenSpec.preRow_of_cond 8 hx (by kernel_rfl) (fun k hk => by cases hk) (by kernel_rfl) (by
       rw [MakeChecks.laidMetH_plain _ _ _ (by kernel_rfl)]
       exact laid_met os))) ?_
 intro W base args ds gs before hval hW _ _ _ hL _ _
 exact contract H enc W base args ds gs before hval hW hL

theorem said : Rows.FoldOrdersSaid :=
 OpenClaim.holds_of_cond 5 Tryd.f5 rfl rfl rfl rfl rfl rfl rfl ⟨rfl, rfl, rfl, rfl, rfl⟩ rfl rfl rfl rfl rfl (by kernel_rfl) Tryd.func5 (by kernel_rfl)
   (of_decide_eq_true (by kernel_rfl)) (by unfold Func.isWrapper; first | (rw [if_pos (by decide +kernel)]; kernel_rfl) | (rw [if_neg (by decide +kernel)]; exact ⟨rfl, rfl⟩))
   (fun os started H enc _ F => by rw [OpenClaim.pre_eq_preRow]; exact lifted os started H enc F)

theorem plain (f : FuncId) (fn : Func) (hf : Tryd.pinned.checked.prog.funcNamed Rows.foldOrdersRow.func = some f) (hfn : Tryd.pinned.checked.prog.funcs[f]? = some fn) :
   false = Tryd.pinned.checked.prog.looks [] ∧ ∀ (j : Nat) t, fn.params[j]? = some t → Tryd.pinned.checked.prog.wantsStandIn t = false := by
 obtain rfl : f = 5 := Option.some.inj ((show Tryd.prog.funcNamed Rows.foldOrdersRow.func = some 5 by kernel_rfl).symm.trans hf) |>.symm
 obtain rfl : fn = Tryd.f5 := (Option.some.inj (Tryd.func5.symm.trans hfn)).symm
 refine ⟨by kernel_rfl, fun j t ht => ?_⟩
 rw [Tryd.params5] at ht
 have hm : t ∈ [36, 37, 37] := by simpa using Array.mem_of_getElem? ht
 have hall : ([36, 37, 37].all fun u => !Tryd.prog.wantsStandIn u) = true := by kernel_rfl
 exact (show Tryd.prog.wantsStandIn t = false by simpa using List.all_eq_true.1 hall t hm)

theorem card : Rows.FoldOrdersCardSaid :=
 Claim7.holds_tied_plain_at .later [] _ _ _ _ said (fun _ h => by cases h) (by kernel_rfl) (fun _ h => by cases h) foldOrders_row_tie rfl ⟨rfl, rfl⟩ (by kernel_rfl) rfl plain (by kernel_rfl)
end Go.Proofs.YtiahgalhemljnaaDoor.foldOrders
namespace Go.Proofs.YtiahgalhemljnaaDoor
theorem foldOrders_card : Rows.FoldOrdersCardSaid := foldOrders.card
end Go.Proofs.YtiahgalhemljnaaDoor
