/-
  Contracts of the document's products, quotients and rounding.
-/
import Derived.Test.YtdmiddpfgmbbhaaGreatDoorFixJ
import Derived.Test.YtdmiddpfgmbbhaaGreatDoorFixF
import Derived.Test.YtdmiddpfgmbbhaaGreatDoorRSigned
namespace Go.Proofs.YtdmiddpfgmbbhaaGreatDoor
open Go.RowKit
set_option maxHeartbeats 1000000

theorem uhi_small (x : Nat) (h : x < 18446744073709551616) : uhi (x : Int) = 0 := by unfold uhi; omega
theorem lo_small' (x : Nat) (h : x < 18446744073709551616) : loOf (x : Int) = x := by unfold loOf; omega
theorem near_w (X d : Nat) (hX : X < 340282366920938463463374607431768211456) (hd : 0 < d) (hd' : d < 18446744073709551616) (w : World) :
    Calls Tryz.prog 43 #[.agg #[.int .u64 (uhi X), .int .u64 (loOf X)], .int .u64 d] w fun e w' => e = .returned (.agg #[.int .u64 (uhi (nearQ X d)), .int .u64 (loOf (nearQ X d))]) ∧ Ext w w' := by
  have u0 : uhi 0 = 0 := by decide
  have l0 : loOf 0 = 0 := by decide
  have cD := fun W => divide_any X d hX hd (by omega) W
  have cU := fun W => up_w ((X % d : Nat) : Int) W
  have hrl := Nat.mod_lt X hd
  have cC := fun W => cmp_w (((X % d : Nat) : Int) * 2) d (by omega) (by omega) (by omega) (by omega) W
  have cP := fun W => plusW_w ((X / d : Nat) : Int) ((1 : Nat) : Int) W
  rw [uhi_small d hd', lo_small' d hd'] at cD cC
  rw [uhi_small 1 (by omega), lo_small' 1 (by omega)] at cP
  have HN : Hid (((nearQ X d : Nat) : Int) = if d ≤ 2 * (X % d) then ((X / d : Nat) : Int) + ((1 : Nat) : Int) else ((X / d : Nat) : Int)) := by
    show ((nearQ X d : Nat) : Int) = _
    unfold nearQ
    split <;> omega
  obtain ⟨u1, u2⟩ := uhi_bd X; obtain ⟨u3, u4⟩ := lo_bd X
  obtain ⟨q, hq⟩ : ∃ q : Int, q = ((X / d : Nat) : Int) := ⟨_, rfl⟩
  obtain ⟨r, hr⟩ : ∃ r : Int, r = ((X % d : Nat) : Int) := ⟨_, rfl⟩
  rw [← hq] at cP HN
  rw [← hr] at cU cC
  rw [← hq, ← hr] at cD
  rw [show ((1 : Nat) : Int) = 1 from rfl] at cP HN
  have HR : Hid (r = ((X % d : Nat) : Int)) := hr
  clear hq hr hrl hX
  by_cases hge : d ≤ 2 * (X % d)
  · have hN := HN.out
    rw [if_pos hge] at hN
    rw [hN]
    have hc1 : decide (0 ≤ cmpI (r * 2) d) = true := by
      rw [decide_eq_true_eq, HR.out]; unfold cmpI; rw [if_neg (by omega)]; split <;> omega
    have hc2 : 0 ≤ cmpI (r * 2) d := by simpa using hc1
    generalize cmpI (r * 2) d = cc at *
    clear hge hN hd hd'
    go_enter Tryz.func43, Tryz.ntmps43
    go_wp2_with fail
    refine (cD _).mono ?_
    rintro e w1 ⟨rfl, E1⟩
    have H1 : Hid (Pair w1 (w.heap.size + 1) 0) := Pair.ext (by simp [Pair, u0, l0, go_sem]) E1
    have X1 : Hid (Ext w w1) := (((Ext.refl _).alloc _).alloc _).trans E1
    have hz := E1.sz
    clear E1
    go_wp2_with fail
    refine (cU _).mono ?_
    rintro e w2 ⟨rfl, E2⟩
    have HQ2 : Hid (Pair w2 w1.heap.size q) := Pair.ext (by simp [Pair, go_sem, World.cell?_alloc_past]) E2
    have H2 : Hid (Pair w2 (w.heap.size + 1) 0) := ((H1.out.ext ((Ext.refl _).alloc _)).ext ((Ext.refl _).alloc _)).ext E2
    have X2 : Hid (Ext w w2) := ((X1.out.alloc _).alloc _).trans E2
    have hne : ¬ w1.heap.size = w.heap.size + 1 := by simp at hz; omega
    clear E2
    go_wp2_with fail
    refine (cC _).mono ?_
    rintro e w3 ⟨rfl, E3⟩
    have HQ3 : Hid (Pair w3 w1.heap.size q) := HQ2.out.ext E3
    have H3 : Hid (Pair w3 (w.heap.size + 1) 0) := H2.out.ext E3
    have X3 : Hid (Ext w w3) := X2.out.trans E3
    have hsz : w.heap.size ≤ w1.heap.size := X1.out.sz
    clear E3
    obtain ⟨x1, x2, x3, x4, x5⟩ := HQ3.out
    obtain ⟨y1, y2, y3, y4, y5⟩ := H3.out
    go_wp2_with fail
    refine (cP _).mono ?_
    rintro e w4 ⟨rfl, E4⟩
    have HQ4 : Hid (Pair w4 w1.heap.size q) := HQ3.out.ext E4
    have H4 : Hid (Pair w4 (w.heap.size + 1) 0) := H3.out.ext E4
    have X4 : Hid (Ext w w4) := X3.out.trans E4
    clear E4 x1 x2 x3 x4 x5 y1 y2 y3 y4 y5
    obtain ⟨x1, x2, x3, x4, x5⟩ := HQ4.out
    obtain ⟨y1, y2, y3, y4, y5⟩ := H4.out
    go_wp2
    simp [bodyPost, results, Tryz.results43, go_sem, *]
    exact (((X4.out.setCell hsz _).setCell hsz _).setCell (by simp) _).setCell (by simp) _
  · have hN := HN.out
    rw [if_neg hge] at hN
    rw [hN]
    have hc1 : decide (0 ≤ cmpI (r * 2) d) = false := by
      rw [decide_eq_false_iff_not, HR.out]; unfold cmpI; rw [if_pos (by omega)]; omega
    have hc2 : ¬ 0 ≤ cmpI (r * 2) d := by simpa using hc1
    generalize cmpI (r * 2) d = cc at *
    clear hge hN hd hd'
    go_enter Tryz.func43, Tryz.ntmps43
    go_wp2_with fail
    refine (cD _).mono ?_
    rintro e w1 ⟨rfl, E1⟩
    have H1 : Hid (Pair w1 (w.heap.size + 1) 0) := Pair.ext (by simp [Pair, u0, l0, go_sem]) E1
    have X1 : Hid (Ext w w1) := (((Ext.refl _).alloc _).alloc _).trans E1
    have hz := E1.sz
    clear E1
    go_wp2_with fail
    refine (cU _).mono ?_
    rintro e w2 ⟨rfl, E2⟩
    have HQ2 : Hid (Pair w2 w1.heap.size q) := Pair.ext (by simp [Pair, go_sem, World.cell?_alloc_past]) E2
    have H2 : Hid (Pair w2 (w.heap.size + 1) 0) := ((H1.out.ext ((Ext.refl _).alloc _)).ext ((Ext.refl _).alloc _)).ext E2
    have X2 : Hid (Ext w w2) := ((X1.out.alloc _).alloc _).trans E2
    have hne : ¬ w1.heap.size = w.heap.size + 1 := by simp at hz; omega
    clear E2
    go_wp2_with fail
    refine (cC _).mono ?_
    rintro e w3 ⟨rfl, E3⟩
    have HQ3 : Hid (Pair w3 w1.heap.size q) := HQ2.out.ext E3
    have H3 : Hid (Pair w3 (w.heap.size + 1) 0) := H2.out.ext E3
    have X3 : Hid (Ext w w3) := X2.out.trans E3
    have hsz : w.heap.size ≤ w1.heap.size := X1.out.sz
    clear E3
    obtain ⟨x1, x2, x3, x4, x5⟩ := HQ3.out
    obtain ⟨y1, y2, y3, y4, y5⟩ := H3.out
    go_wp2
    simp [bodyPost, results, Tryz.results43, go_sem, *]
    exact (X3.out.setCell (by simp) _).setCell (by simp) _

theorem near_lt (X d : Nat) (hX : X ≤ 85070591730234615865843651857942052864) : nearQ X d < 340282366920938463463374607431768211456 := by
  unfold nearQ
  have := Nat.div_le_self X d
  split <;> omega
theorem prod_le {A B : Nat} (hA : A ≤ 9223372036854775808) (hB : B ≤ 9223372036854775808) : A * B ≤ 85070591730234615865843651857942052864 := Nat.mul_le_mul hA hB
theorem ratS_mul (a b : Int) : ratS a b 10000 = !(decide (a < 0) == decide (b < 0)) := by
  unfold ratS
  have : decide ((10000 : Int) < 0) = false := by decide
  rw [this]
  cases decide (a < 0) <;> cases decide (b < 0) <;> rfl
theorem ratS_div (a b : Int) : ratS a 10000 b = !(decide (a < 0) == decide (b < 0)) := by
  unfold ratS
  have : decide ((10000 : Int) < 0) = false := by decide
  rw [this]
  cases decide (a < 0) <;> cases decide (b < 0) <;> rfl

theorem rmul_any (a b : Int) (ha : I64 a) (hb : I64 b) (w : World) : Calls Tryz.prog 19 #[.int .i64 a, .int .i64 b] w fun e w' => e = .returned (.tuple #[.int .i64 (mulV a b), .bool (mulB a b)]) ∧ Ext w w' := by
  cases hca : canB a
  · have HC : Hid (mulB a b = false) := by show mulB a b = false; unfold mulB; rw [hca]; rfl
    have HV : Hid (mulV a b = 0) := by show mulV a b = 0; unfold mulV; rw [hca]; rfl
    go_enter Tryz.func19, Tryz.ntmps19
    go_wp2_with (go_at_call 39; refine (rcan_any _ _).mono ?_; rintro e w' ⟨rfl, rfl⟩)
    go_ret2
    exact ⟨ret_ib HV.out.symm HC.out.symm, Ext.refl _⟩
  cases hcb : canB b
  · have HC : Hid (mulB a b = false) := by show mulB a b = false; unfold mulB; rw [hca, hcb]; rfl
    have HV : Hid (mulV a b = 0) := by show mulV a b = 0; unfold mulV; rw [hca, hcb]; rfl
    go_enter Tryz.func19, Tryz.ntmps19
    go_wp2_with (go_at_call 39; refine (rcan_any _ _).mono ?_; rintro e w' ⟨rfl, rfl⟩)
    go_ret2
    exact ⟨ret_ib HV.out.symm HC.out.symm, Ext.refl _⟩
  have cA := fun W => rsize_any a ha W
  have cB := fun W => rsize_any b hb W
  have eA : absI a = (a.natAbs : Int) := by unfold absI; omega
  have eB : absI b = (b.natAbs : Int) := by unfold absI; omega
  rw [eA] at cA; rw [eB] at cB
  obtain ⟨_, _⟩ := ha; obtain ⟨_, _⟩ := hb
  have bA : a.natAbs ≤ 9223372036854775808 := by omega
  have bB : b.natAbs ≤ 9223372036854775808 := by omega
  have HC : Hid (mulB a b = sgnB (nearQ (a.natAbs * b.natAbs) 10000)) := by show mulB a b = _; unfold mulB; rw [hca, hcb]; rfl
  have HV : Hid (mulV a b = sgnV (!(decide (a < 0) == decide (b < 0))) (nearQ (a.natAbs * b.natAbs) 10000)) := by show mulV a b = _; unfold mulV; rw [hca, hcb, ratS_mul]; rfl
  generalize a.natAbs = A at *
  generalize b.natAbs = B at *
  have hP := prod_le bA bB
  have cP := fun W => product_any A B (by omega) (by omega) W
  have cN := fun W => near_w (A * B) 10000 (by omega) (by omega) (by omega) W
  have hN := near_lt (A * B) 10000 hP
  rw [show ((10000 : Nat) : Int) = 10000 from rfl] at cN
  have cS := fun (neg : Bool) W => rsigned_w neg (nearQ (A * B) 10000) hN W
  generalize A * B = P at *
  generalize nearQ P 10000 = N at *
  clear hP hN bA bB eA eB
  go_enter Tryz.func19, Tryz.ntmps19
  go_wp2_with (go_at_call 39; refine (rcan_any _ _).mono ?_; rintro e w' ⟨rfl, rfl⟩)
  refine (cA _).mono ?_
  rintro e w1 ⟨rfl, rfl⟩
  go_wp2_with fail
  refine (cB _).mono ?_
  rintro e w2 ⟨rfl, rfl⟩
  go_wp2_with fail
  refine (cP _).mono ?_
  rintro e w3 ⟨rfl, E3⟩
  go_wp2_with fail
  refine (cN _).mono ?_
  rintro e w4 ⟨rfl, E4⟩
  go_wp2_with fail
  refine (cS _ _).mono ?_
  rintro e w5 ⟨rfl, E5⟩
  go_wp2
  go_ret2
  exact ⟨ret_ib HV.out.symm HC.out.symm, E3.trans (E4.trans E5)⟩
theorem rdiv_any (a b : Int) (ha : I64 a) (hb : I64 b) (w : World) : Calls Tryz.prog 20 #[.int .i64 a, .int .i64 b] w fun e w' => e = .returned (.tuple #[.int .i64 (divV a b), .bool (divB a b)]) ∧ Ext w w' := by
  cases hca : canB a
  · have HC : Hid (divB a b = false) := by show divB a b = false; unfold divB; rw [hca]; rfl
    have HV : Hid (divV a b = 0) := by show divV a b = 0; unfold divV; rw [hca]; rfl
    go_enter Tryz.func20, Tryz.ntmps20
    go_wp2_with (go_at_call 39; refine (rcan_any _ _).mono ?_; rintro e w' ⟨rfl, rfl⟩)
    go_ret2
    exact ⟨ret_ib HV.out.symm HC.out.symm, Ext.refl _⟩
  cases hcb : canB b
  · have HC : Hid (divB a b = false) := by show divB a b = false; unfold divB; rw [hca, hcb]; rfl
    have HV : Hid (divV a b = 0) := by show divV a b = 0; unfold divV; rw [hca, hcb]; rfl
    go_enter Tryz.func20, Tryz.ntmps20
    go_wp2_with (go_at_call 39; refine (rcan_any _ _).mono ?_; rintro e w' ⟨rfl, rfl⟩)
    go_ret2
    exact ⟨ret_ib HV.out.symm HC.out.symm, Ext.refl _⟩
  by_cases hz : b = 0
  · subst hz
    have HC : Hid (divB a 0 = false) := by show divB a 0 = false; unfold divB; simp
    have HV : Hid (divV a 0 = 0) := by show divV a 0 = 0; unfold divV; simp
    go_enter Tryz.func20, Tryz.ntmps20
    go_wp2_with (go_at_call 39; refine (rcan_any _ _).mono ?_; rintro e w' ⟨rfl, rfl⟩)
    go_ret2
    exact ⟨ret_ib HV.out.symm HC.out.symm, Ext.refl _⟩
  have hz1 : (b == 0) = false := by simp [hz]
  have hz2 : (b != 0) = true := by simp [hz]
  have cA := fun W => rsize_any a ha W
  have cB := fun W => rsize_any b hb W
  have eA : absI a = (a.natAbs : Int) := by unfold absI; omega
  have eB : absI b = (b.natAbs : Int) := by unfold absI; omega
  rw [eA] at cA; rw [eB] at cB
  obtain ⟨_, _⟩ := ha; obtain ⟨_, _⟩ := hb
  have bA : a.natAbs ≤ 9223372036854775808 := by omega
  have bB : b.natAbs ≤ 9223372036854775808 := by omega
  have HC : Hid (divB a b = sgnB (nearQ (a.natAbs * 10000) b.natAbs)) := by show divB a b = _; unfold divB; rw [hca, hcb, hz2]; rfl
  have HV : Hid (divV a b = sgnV (!(decide (a < 0) == decide (b < 0))) (nearQ (a.natAbs * 10000) b.natAbs)) := by show divV a b = _; unfold divV; rw [hca, hcb, hz2, ratS_div]; rfl
  have pB : 0 < b.natAbs := by omega
  generalize a.natAbs = A at *
  generalize b.natAbs = B at *
  have hP := prod_le bA (show 10000 ≤ 9223372036854775808 by omega)
  have cP := fun W => product_any A 10000 (by omega) (by omega) W
  have cN := fun W => near_w (A * 10000) B (by omega) pB (by omega) W
  have hN := near_lt (A * 10000) B hP
  rw [show ((10000 : Nat) : Int) = 10000 from rfl] at cP
  have cS := fun (neg : Bool) W => rsigned_w neg (nearQ (A * 10000) B) hN W
  generalize A * 10000 = P at *
  generalize nearQ P B = N at *
  clear hP hN bA bB eA eB pB hz hz2
  go_enter Tryz.func20, Tryz.ntmps20
  go_wp2_with (go_at_call 39; refine (rcan_any _ _).mono ?_; rintro e w' ⟨rfl, rfl⟩)
  refine (cA _).mono ?_
  rintro e w1 ⟨rfl, rfl⟩
  go_wp2_with fail
  refine (cP _).mono ?_
  rintro e w3 ⟨rfl, E3⟩
  go_wp2_with fail
  refine (cB _).mono ?_
  rintro e w2 ⟨rfl, rfl⟩
  go_wp2_with fail
  refine (cN _).mono ?_
  rintro e w4 ⟨rfl, E4⟩
  go_wp2_with fail
  refine (cS _ _).mono ?_
  rintro e w5 ⟨rfl, E5⟩
  go_wp2
  go_ret2
  exact ⟨ret_ib HV.out.symm HC.out.symm, E3.trans (E4.trans E5)⟩

end Go.Proofs.YtdmiddpfgmbbhaaGreatDoor
