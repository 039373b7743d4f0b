/-
  ValueOrders is proved: for any three values the call returns true and the arguments read as they did. Its condition: the errors' names lie as the program's text lays them (the card ties them).
-/
import Derived.Test.YtlfkiepnahgbeabDoorValCmp
import Derived.Test.YtlfkiepnahgbeabDoorValG
import Derived.Test.YtlfkiepnahgbeabDoorLaid4O
import Derived.Test.YtlfkiepnahgbeabDoorCards
import Derived.Test.YtlfkiepnahgbeabDoorTie
import Derived.ChangeMaps5
import Derived.Lib.SmallJoins
namespace Go.Proofs.YtlfkiepnahgbeabDoor.valueOrders
open Go.ChangeShapes Go.WideShapes Go.ChangeAt Go.RowKit
open Go.ChangeMaps (open_string shut_string)
open Go.Joins
set_option maxHeartbeats 1000000

theorem field_k (k n : Int) (s : ByteArray) (e : Int) (W : World) : (Instr.field 23 (.agg #[.int .i64 k, .int .i64 n, .string s, .int .i64 e]) 0).run Tryd.prog W = .ok (.int .i64 k) W := by kernel_rfl
theorem sg_go (x y z : Int) (h : sg3 x y ≤ 0) (g : sg3 y z ≤ 0) : sg3 x z = if sg3 x y = 0 ∧ sg3 y z = 0 then 0 else -1 := by
  unfold sg3 at *
  repeat' split
  all_goals (first | omega | (split at h <;> (try split at h) <;> split at g <;> (try split at g) <;> omega))
theorem cb_go (x y z : List UInt8) (h : Lib.compareBytes x y ≤ 0) (g : Lib.compareBytes y z ≤ 0) : Lib.compareBytes x z = if Lib.compareBytes x y = 0 ∧ Lib.compareBytes y z = 0 then 0 else -1 := by
  rcases cb_range x y with h1 | h1 | h1
  · rcases cb_range y z with g1 | g1 | g1
    · rw [cb_trans x y z h1 g1, if_neg (by omega)]
    · rw [← cb_zero y z g1, h1, if_neg (by omega)]
    · omega
  · rw [cb_zero x y h1, cb_self]
    rcases cb_range y z with g1 | g1 | g1
    · rw [g1, if_neg (by omega)]
    · rw [g1, if_pos ⟨rfl, rfl⟩]
    · omega
  · omega
theorem ord_go (a b c : V) (ha : a.k ≠ 0 ∧ a.k ≠ 4) (hb : b.k ≠ 0 ∧ b.k ≠ 4) (hc : c.k ≠ 0 ∧ c.k ≠ 4) (h : ord a b ≤ 0) (g : ord b c ≤ 0) : ord a c = if ord a b = 0 ∧ ord b c = 0 then 0 else -1 := by
  cases a <;> first | exact absurd rfl ha.1 | exact absurd rfl ha.2 | skip
  all_goals cases b <;> first | exact absurd rfl hb.1 | exact absurd rfl hb.2 | skip
  all_goals cases c <;> first | exact absurd rfl hc.1 | exact absurd rfl hc.2 | skip
  all_goals simp only [ord, rankV] at h g ⊢
  all_goals first | exact sg_go _ _ _ h g | exact cb_go _ _ _ h g | (exfalso; revert h g; simp [sg3]; done) | (simp [sg3]; done)
theorem cmp_ord (a b : V) (ha : a.k ≠ 0) (hb : b.k ≠ 0) (h : (cmpE a b).k ≠ 4) : cmpV a b = ord a b ∧ a.k ≠ 4 ∧ b.k ≠ 4 := by
  cases a <;> cases b <;> first | (exact absurd rfl ha) | (exact absurd rfl hb) | (exact absurd rfl h) | (refine ⟨rfl, ?_, ?_⟩ <;> (intro q; cases q))
theorem ord_rng (a b : V) : ord a b = -1 ∨ ord a b = 0 ∨ ord a b = 1 := by
  cases a <;> cases b <;> first | exact cb_range _ _ | (simp only [ord]; unfold sg3; split <;> (try split) <;> simp)
set_option maxRecDepth 100000 in
theorem way1 (k0 n0 : Int) (s0 : ByteArray) (e0 k1 n1 : Int) (s1 : ByteArray) (e1 k2 n2 : Int) (s2 : ByteArray) (e2 : Int) (w : World) (hN : Nm w) (pn : Int) (ps : ByteArray) (pe : Int) (d0 : ∀ W, Calls Tryd.prog 4 #[.agg #[.int .i64 k0, .int .i64 n0, .string s0, .int .i64 e0]] W fun r w' => r = .returned (.agg #[.int .i64 0, .int .i64 pn, .string ps, .int .i64 pe]) ∧ Ext W w') :
    Calls Tryd.prog 3 #[.agg #[.int .i64 k0, .int .i64 n0, .string s0, .int .i64 e0], .agg #[.int .i64 k1, .int .i64 n1, .string s1, .int .i64 e1], .agg #[.int .i64 k2, .int .i64 n2, .string s2, .int .i64 e2]] w fun e w' => e = .returned (.bool true) ∧ Ext w w' := by
  have cl := fun W h => lives_v W h
  have fk := field_k
  go_enter Tryd.func3, Tryd.ntmps3
  go_wp2_with fail
  refine (d0 _).mono ?_
  rintro r w1 ⟨rfl, E1⟩
  have X1 : Ext w w1 := Ext.trans (by ((with_reducible (repeat' (first | assumption | exact Ext.refl _ | apply Ext.alloc | apply Ext.drew | apply Ext.drewN | apply Ext.setCell))); all_goals (first | omega | (simp; done) | (simp; omega)))) E1
  have P0_1 := blk_top (b := w.heap.size) (by simp) ((((Ext.refl _).alloc _).alloc _).trans E1)
  have P1_1 := blk_top (b := w.heap.size + 1) (by simp) (((Ext.refl _).alloc _).trans E1)
  have P2_1 := blk_top (b := w.heap.size + 1 + 1) (by simp) E1
  have D0 := P0_1
  obtain ⟨d0z, ⟨d0_0, d0_1, d0_2, d0_3⟩, _⟩ := D0
  have D1 := P1_1
  obtain ⟨d1z, ⟨d1_0, d1_1, d1_2, d1_3⟩, _⟩ := D1
  have D2 := P2_1
  obtain ⟨d2z, ⟨d2_0, d2_1, d2_2, d2_3⟩, _⟩ := D2
  go_wp2_with fail
  refine (cl _ (hN.ext (by ((with_reducible (repeat' (first | assumption | exact Ext.refl _ | apply Ext.alloc | apply Ext.drew | apply Ext.drewN | apply Ext.setCell))); all_goals (first | omega | (simp; done) | (simp; omega)))))).mono ?_
  rintro r w2 ⟨rfl, E2⟩
  have X2 : Ext w w2 := Ext.trans (by ((with_reducible (repeat' (first | assumption | exact Ext.refl _ | apply Ext.alloc | apply Ext.drew | apply Ext.drewN | apply Ext.setCell))); all_goals (first | omega | (simp; done) | (simp; omega)))) E2
  go_wp2_with fail
  go_ret
  exact ⟨ret_bool rfl, X2⟩
set_option maxRecDepth 100000 in
theorem way2 (k0 n0 : Int) (s0 : ByteArray) (e0 k1 n1 : Int) (s1 : ByteArray) (e1 k2 n2 : Int) (s2 : ByteArray) (e2 : Int) (w : World) (hN : Nm w) (pk pn : Int) (ps : ByteArray) (pe : Int) (qn : Int) (qs : ByteArray) (qe : Int) (hp : (pk == 0) = false) (d0 : ∀ W, Calls Tryd.prog 4 #[.agg #[.int .i64 k0, .int .i64 n0, .string s0, .int .i64 e0]] W fun r w' => r = .returned (.agg #[.int .i64 pk, .int .i64 pn, .string ps, .int .i64 pe]) ∧ Ext W w') (d1 : ∀ W, Calls Tryd.prog 4 #[.agg #[.int .i64 k1, .int .i64 n1, .string s1, .int .i64 e1]] W fun r w' => r = .returned (.agg #[.int .i64 0, .int .i64 qn, .string qs, .int .i64 qe]) ∧ Ext W w') :
    Calls Tryd.prog 3 #[.agg #[.int .i64 k0, .int .i64 n0, .string s0, .int .i64 e0], .agg #[.int .i64 k1, .int .i64 n1, .string s1, .int .i64 e1], .agg #[.int .i64 k2, .int .i64 n2, .string s2, .int .i64 e2]] w fun e w' => e = .returned (.bool true) ∧ Ext w w' := by
  have cl := fun W h => lives_v W h
  have fk := field_k
  go_enter Tryd.func3, Tryd.ntmps3
  go_wp2_with fail
  refine (d0 _).mono ?_
  rintro r w1 ⟨rfl, E1⟩
  have X1 : Ext w w1 := Ext.trans (by ((with_reducible (repeat' (first | assumption | exact Ext.refl _ | apply Ext.alloc | apply Ext.drew | apply Ext.drewN | apply Ext.setCell))); all_goals (first | omega | (simp; done) | (simp; omega)))) E1
  have P0_1 := blk_top (b := w.heap.size) (by simp) ((((Ext.refl _).alloc _).alloc _).trans E1)
  have P1_1 := blk_top (b := w.heap.size + 1) (by simp) (((Ext.refl _).alloc _).trans E1)
  have P2_1 := blk_top (b := w.heap.size + 1 + 1) (by simp) E1
  have D0 := P0_1
  obtain ⟨d0z, ⟨d0_0, d0_1, d0_2, d0_3⟩, _⟩ := D0
  have D1 := P1_1
  obtain ⟨d1z, ⟨d1_0, d1_1, d1_2, d1_3⟩, _⟩ := D1
  have D2 := P2_1
  obtain ⟨d2z, ⟨d2_0, d2_1, d2_2, d2_3⟩, _⟩ := D2
  go_wp2_with fail
  refine (d1 _).mono ?_
  rintro r w2 ⟨rfl, E2⟩
  have X2 : Ext w w2 := Ext.trans (by ((with_reducible (repeat' (first | assumption | exact Ext.refl _ | apply Ext.alloc | apply Ext.drew | apply Ext.drewN | apply Ext.setCell))); all_goals (first | omega | (simp; done) | (simp; omega)))) E2
  have P0_2 := P0_1.ext E2
  have P1_2 := P1_1.ext E2
  have P2_2 := P2_1.ext E2
  have D0 := P0_2
  obtain ⟨d0z, ⟨d0_0, d0_1, d0_2, d0_3⟩, _⟩ := D0
  have D1 := P1_2
  obtain ⟨d1z, ⟨d1_0, d1_1, d1_2, d1_3⟩, _⟩ := D1
  have D2 := P2_2
  obtain ⟨d2z, ⟨d2_0, d2_1, d2_2, d2_3⟩, _⟩ := D2
  go_wp2_with fail
  refine (cl _ (hN.ext (by ((with_reducible (repeat' (first | assumption | exact Ext.refl _ | apply Ext.alloc | apply Ext.drew | apply Ext.drewN | apply Ext.setCell))); all_goals (first | omega | (simp; done) | (simp; omega)))))).mono ?_
  rintro r w3 ⟨rfl, E3⟩
  have X3 : Ext w w3 := Ext.trans (by ((with_reducible (repeat' (first | assumption | exact Ext.refl _ | apply Ext.alloc | apply Ext.drew | apply Ext.drewN | apply Ext.setCell))); all_goals (first | omega | (simp; done) | (simp; omega)))) E3
  go_wp2_with fail
  go_ret
  exact ⟨ret_bool rfl, X3⟩
set_option maxRecDepth 100000 in
theorem way3 (k0 n0 : Int) (s0 : ByteArray) (e0 k1 n1 : Int) (s1 : ByteArray) (e1 k2 n2 : Int) (s2 : ByteArray) (e2 : Int) (w : World) (hN : Nm w) (pk pn : Int) (ps : ByteArray) (pe : Int) (qk qn : Int) (qs : ByteArray) (qe : Int) (rn : Int) (rs : ByteArray) (re : Int) (hp : (pk == 0) = false) (hq : (qk == 0) = false) (d0 : ∀ W, Calls Tryd.prog 4 #[.agg #[.int .i64 k0, .int .i64 n0, .string s0, .int .i64 e0]] W fun r w' => r = .returned (.agg #[.int .i64 pk, .int .i64 pn, .string ps, .int .i64 pe]) ∧ Ext W w') (d1 : ∀ W, Calls Tryd.prog 4 #[.agg #[.int .i64 k1, .int .i64 n1, .string s1, .int .i64 e1]] W fun r w' => r = .returned (.agg #[.int .i64 qk, .int .i64 qn, .string qs, .int .i64 qe]) ∧ Ext W w') (d2 : ∀ W, Calls Tryd.prog 4 #[.agg #[.int .i64 k2, .int .i64 n2, .string s2, .int .i64 e2]] W fun r w' => r = .returned (.agg #[.int .i64 0, .int .i64 rn, .string rs, .int .i64 re]) ∧ Ext W w') :
    Calls Tryd.prog 3 #[.agg #[.int .i64 k0, .int .i64 n0, .string s0, .int .i64 e0], .agg #[.int .i64 k1, .int .i64 n1, .string s1, .int .i64 e1], .agg #[.int .i64 k2, .int .i64 n2, .string s2, .int .i64 e2]] w fun e w' => e = .returned (.bool true) ∧ Ext w w' := by
  have cl := fun W h => lives_v W h
  have fk := field_k
  go_enter Tryd.func3, Tryd.ntmps3
  go_wp2_with fail
  refine (d0 _).mono ?_
  rintro r w1 ⟨rfl, E1⟩
  have X1 : Ext w w1 := Ext.trans (by ((with_reducible (repeat' (first | assumption | exact Ext.refl _ | apply Ext.alloc | apply Ext.drew | apply Ext.drewN | apply Ext.setCell))); all_goals (first | omega | (simp; done) | (simp; omega)))) E1
  have P0_1 := blk_top (b := w.heap.size) (by simp) ((((Ext.refl _).alloc _).alloc _).trans E1)
  have P1_1 := blk_top (b := w.heap.size + 1) (by simp) (((Ext.refl _).alloc _).trans E1)
  have P2_1 := blk_top (b := w.heap.size + 1 + 1) (by simp) E1
  have D0 := P0_1
  obtain ⟨d0z, ⟨d0_0, d0_1, d0_2, d0_3⟩, _⟩ := D0
  have D1 := P1_1
  obtain ⟨d1z, ⟨d1_0, d1_1, d1_2, d1_3⟩, _⟩ := D1
  have D2 := P2_1
  obtain ⟨d2z, ⟨d2_0, d2_1, d2_2, d2_3⟩, _⟩ := D2
  go_wp2_with fail
  refine (d1 _).mono ?_
  rintro r w2 ⟨rfl, E2⟩
  have X2 : Ext w w2 := Ext.trans (by ((with_reducible (repeat' (first | assumption | exact Ext.refl _ | apply Ext.alloc | apply Ext.drew | apply Ext.drewN | apply Ext.setCell))); all_goals (first | omega | (simp; done) | (simp; omega)))) E2
  have P0_2 := P0_1.ext E2
  have P1_2 := P1_1.ext E2
  have P2_2 := P2_1.ext E2
  have D0 := P0_2
  obtain ⟨d0z, ⟨d0_0, d0_1, d0_2, d0_3⟩, _⟩ := D0
  have D1 := P1_2
  obtain ⟨d1z, ⟨d1_0, d1_1, d1_2, d1_3⟩, _⟩ := D1
  have D2 := P2_2
  obtain ⟨d2z, ⟨d2_0, d2_1, d2_2, d2_3⟩, _⟩ := D2
  go_wp2_with fail
  refine (d2 _).mono ?_
  rintro r w3 ⟨rfl, E3⟩
  have X3 : Ext w w3 := Ext.trans (by ((with_reducible (repeat' (first | assumption | exact Ext.refl _ | apply Ext.alloc | apply Ext.drew | apply Ext.drewN | apply Ext.setCell))); all_goals (first | omega | (simp; done) | (simp; omega)))) E3
  have P0_3 := P0_2.ext E3
  have P1_3 := P1_2.ext E3
  have P2_3 := P2_2.ext E3
  have D0 := P0_3
  obtain ⟨d0z, ⟨d0_0, d0_1, d0_2, d0_3⟩, _⟩ := D0
  have D1 := P1_3
  obtain ⟨d1z, ⟨d1_0, d1_1, d1_2, d1_3⟩, _⟩ := D1
  have D2 := P2_3
  obtain ⟨d2z, ⟨d2_0, d2_1, d2_2, d2_3⟩, _⟩ := D2
  go_wp2_with fail
  refine (cl _ (hN.ext (by ((with_reducible (repeat' (first | assumption | exact Ext.refl _ | apply Ext.alloc | apply Ext.drew | apply Ext.drewN | apply Ext.setCell))); all_goals (first | omega | (simp; done) | (simp; omega)))))).mono ?_
  rintro r w4 ⟨rfl, E4⟩
  have X4 : Ext w w4 := Ext.trans (by ((with_reducible (repeat' (first | assumption | exact Ext.refl _ | apply Ext.alloc | apply Ext.drew | apply Ext.drewN | apply Ext.setCell))); all_goals (first | omega | (simp; done) | (simp; omega)))) E4
  go_wp2_with fail
  go_ret
  exact ⟨ret_bool rfl, X4⟩
set_option maxRecDepth 100000 in
theorem way4a (k0 n0 : Int) (s0 : ByteArray) (e0 k1 n1 : Int) (s1 : ByteArray) (e1 k2 n2 : Int) (s2 : ByteArray) (e2 : Int) (w : World) (hN : Nm w) (pk pn : Int) (ps : ByteArray) (pe : Int) (qk qn : Int) (qs : ByteArray) (qe : Int) (rk rn : Int) (rs : ByteArray) (re : Int) (hp : (pk == 0) = false) (hq : (qk == 0) = false) (hr : (rk == 0) = false) (d0 : ∀ W, Calls Tryd.prog 4 #[.agg #[.int .i64 k0, .int .i64 n0, .string s0, .int .i64 e0]] W fun r w' => r = .returned (.agg #[.int .i64 pk, .int .i64 pn, .string ps, .int .i64 pe]) ∧ Ext W w') (d1 : ∀ W, Calls Tryd.prog 4 #[.agg #[.int .i64 k1, .int .i64 n1, .string s1, .int .i64 e1]] W fun r w' => r = .returned (.agg #[.int .i64 qk, .int .i64 qn, .string qs, .int .i64 qe]) ∧ Ext W w') (d2 : ∀ W, Calls Tryd.prog 4 #[.agg #[.int .i64 k2, .int .i64 n2, .string s2, .int .i64 e2]] W fun r w' => r = .returned (.agg #[.int .i64 rk, .int .i64 rn, .string rs, .int .i64 re]) ∧ Ext W w') (I M K : Int) (xn : Int) (xs : ByteArray) (xe : Int) (yk yn : Int) (ys : ByteArray) (ye : Int) (zk zn : Int) (zs : ByteArray) (ze : Int) (c1 : ∀ W, Nm W → Calls Tryd.prog 6 #[.agg #[.int .i64 k0, .int .i64 n0, .string s0, .int .i64 e0], .agg #[.int .i64 k1, .int .i64 n1, .string s1, .int .i64 e1]] W fun r w' => r = .returned (.tuple #[.int .i64 I, .agg #[.int .i64 4, .int .i64 xn, .string xs, .int .i64 xe]]) ∧ Ext W w') (c2 : ∀ W, Nm W → Calls Tryd.prog 6 #[.agg #[.int .i64 k1, .int .i64 n1, .string s1, .int .i64 e1], .agg #[.int .i64 k2, .int .i64 n2, .string s2, .int .i64 e2]] W fun r w' => r = .returned (.tuple #[.int .i64 M, .agg #[.int .i64 yk, .int .i64 yn, .string ys, .int .i64 ye]]) ∧ Ext W w') (c3 : ∀ W, Nm W → Calls Tryd.prog 6 #[.agg #[.int .i64 k0, .int .i64 n0, .string s0, .int .i64 e0], .agg #[.int .i64 k2, .int .i64 n2, .string s2, .int .i64 e2]] W fun r w' => r = .returned (.tuple #[.int .i64 K, .agg #[.int .i64 zk, .int .i64 zn, .string zs, .int .i64 ze]]) ∧ Ext W w') :
    Calls Tryd.prog 3 #[.agg #[.int .i64 k0, .int .i64 n0, .string s0, .int .i64 e0], .agg #[.int .i64 k1, .int .i64 n1, .string s1, .int .i64 e1], .agg #[.int .i64 k2, .int .i64 n2, .string s2, .int .i64 e2]] w fun e w' => e = .returned (.bool true) ∧ Ext w w' := by
  have cl := fun W h => lives_v W h
  have fk := field_k
  go_enter Tryd.func3, Tryd.ntmps3
  go_wp2_with fail
  refine (d0 _).mono ?_
  rintro r w1 ⟨rfl, E1⟩
  have X1 : Ext w w1 := Ext.trans (by ((with_reducible (repeat' (first | assumption | exact Ext.refl _ | apply Ext.alloc | apply Ext.drew | apply Ext.drewN | apply Ext.setCell))); all_goals (first | omega | (simp; done) | (simp; omega)))) E1
  have P0_1 := blk_top (b := w.heap.size) (by simp) ((((Ext.refl _).alloc _).alloc _).trans E1)
  have P1_1 := blk_top (b := w.heap.size + 1) (by simp) (((Ext.refl _).alloc _).trans E1)
  have P2_1 := blk_top (b := w.heap.size + 1 + 1) (by simp) E1
  have D0 := P0_1
  obtain ⟨d0z, ⟨d0_0, d0_1, d0_2, d0_3⟩, _⟩ := D0
  have D1 := P1_1
  obtain ⟨d1z, ⟨d1_0, d1_1, d1_2, d1_3⟩, _⟩ := D1
  have D2 := P2_1
  obtain ⟨d2z, ⟨d2_0, d2_1, d2_2, d2_3⟩, _⟩ := D2
  go_wp2_with fail
  refine (d1 _).mono ?_
  rintro r w2 ⟨rfl, E2⟩
  have X2 : Ext w w2 := Ext.trans (by ((with_reducible (repeat' (first | assumption | exact Ext.refl _ | apply Ext.alloc | apply Ext.drew | apply Ext.drewN | apply Ext.setCell))); all_goals (first | omega | (simp; done) | (simp; omega)))) E2
  have P0_2 := P0_1.ext E2
  have P1_2 := P1_1.ext E2
  have P2_2 := P2_1.ext E2
  have D0 := P0_2
  obtain ⟨d0z, ⟨d0_0, d0_1, d0_2, d0_3⟩, _⟩ := D0
  have D1 := P1_2
  obtain ⟨d1z, ⟨d1_0, d1_1, d1_2, d1_3⟩, _⟩ := D1
  have D2 := P2_2
  obtain ⟨d2z, ⟨d2_0, d2_1, d2_2, d2_3⟩, _⟩ := D2
  go_wp2_with fail
  refine (d2 _).mono ?_
  rintro r w3 ⟨rfl, E3⟩
  have X3 : Ext w w3 := Ext.trans (by ((with_reducible (repeat' (first | assumption | exact Ext.refl _ | apply Ext.alloc | apply Ext.drew | apply Ext.drewN | apply Ext.setCell))); all_goals (first | omega | (simp; done) | (simp; omega)))) E3
  have P0_3 := P0_2.ext E3
  have P1_3 := P1_2.ext E3
  have P2_3 := P2_2.ext E3
  have D0 := P0_3
  obtain ⟨d0z, ⟨d0_0, d0_1, d0_2, d0_3⟩, _⟩ := D0
  have D1 := P1_3
  obtain ⟨d1z, ⟨d1_0, d1_1, d1_2, d1_3⟩, _⟩ := D1
  have D2 := P2_3
  obtain ⟨d2z, ⟨d2_0, d2_1, d2_2, d2_3⟩, _⟩ := D2
  go_wp2_with fail
  refine (c1 _ (hN.ext (by ((with_reducible (repeat' (first | assumption | exact Ext.refl _ | apply Ext.alloc | apply Ext.drew | apply Ext.drewN | apply Ext.setCell))); all_goals (first | omega | (simp; done) | (simp; omega)))))).mono ?_
  rintro r w4 ⟨rfl, E4⟩
  have X4 : Ext w w4 := Ext.trans (by ((with_reducible (repeat' (first | assumption | exact Ext.refl _ | apply Ext.alloc | apply Ext.drew | apply Ext.drewN | apply Ext.setCell))); all_goals (first | omega | (simp; done) | (simp; omega)))) E4
  have P0_4 := P0_3.ext E4
  have P1_4 := P1_3.ext E4
  have P2_4 := P2_3.ext E4
  have D0 := P0_4
  obtain ⟨d0z, ⟨d0_0, d0_1, d0_2, d0_3⟩, _⟩ := D0
  have D1 := P1_4
  obtain ⟨d1z, ⟨d1_0, d1_1, d1_2, d1_3⟩, _⟩ := D1
  have D2 := P2_4
  obtain ⟨d2z, ⟨d2_0, d2_1, d2_2, d2_3⟩, _⟩ := D2
  go_wp2_with fail
  refine (c2 _ (hN.ext (by ((with_reducible (repeat' (first | assumption | exact Ext.refl _ | apply Ext.alloc | apply Ext.drew | apply Ext.drewN | apply Ext.setCell))); all_goals (first | omega | (simp; done) | (simp; omega)))))).mono ?_
  rintro r w5 ⟨rfl, E5⟩
  have X5 : Ext w w5 := Ext.trans (by ((with_reducible (repeat' (first | assumption | exact Ext.refl _ | apply Ext.alloc | apply Ext.drew | apply Ext.drewN | apply Ext.setCell))); all_goals (first | omega | (simp; done) | (simp; omega)))) E5
  have P0_5 := (P0_4.al _).ext E5
  have P1_5 := (P1_4.al _).ext E5
  have P2_5 := (P2_4.al _).ext E5
  have D0 := P0_5
  obtain ⟨d0z, ⟨d0_0, d0_1, d0_2, d0_3⟩, _⟩ := D0
  have D1 := P1_5
  obtain ⟨d1z, ⟨d1_0, d1_1, d1_2, d1_3⟩, _⟩ := D1
  have D2 := P2_5
  obtain ⟨d2z, ⟨d2_0, d2_1, d2_2, d2_3⟩, _⟩ := D2
  have QX := blk_top (b := w4.heap.size) rfl E5
  go_wp2_with fail
  refine (c3 _ (hN.ext (by ((with_reducible (repeat' (first | assumption | exact Ext.refl _ | apply Ext.alloc | apply Ext.drew | apply Ext.drewN | apply Ext.setCell))); all_goals (first | omega | (simp; done) | (simp; omega)))))).mono ?_
  rintro r w6 ⟨rfl, E6⟩
  have X6 : Ext w w6 := Ext.trans (by ((with_reducible (repeat' (first | assumption | exact Ext.refl _ | apply Ext.alloc | apply Ext.drew | apply Ext.drewN | apply Ext.setCell))); all_goals (first | omega | (simp; done) | (simp; omega)))) E6
  have P0_6 := (P0_5.al _).ext E6
  have P1_6 := (P1_5.al _).ext E6
  have P2_6 := (P2_5.al _).ext E6
  have D0 := P0_6
  obtain ⟨d0z, ⟨d0_0, d0_1, d0_2, d0_3⟩, _⟩ := D0
  have D1 := P1_6
  obtain ⟨d1z, ⟨d1_0, d1_1, d1_2, d1_3⟩, _⟩ := D1
  have D2 := P2_6
  obtain ⟨d2z, ⟨d2_0, d2_1, d2_2, d2_3⟩, _⟩ := D2
  have QX6 := (QX.al _).ext E6
  have QY6 := blk_top (b := w5.heap.size) rfl E6
  obtain ⟨qxz, ⟨qx0, qx1, qx2, qx3⟩, _⟩ := QX6
  obtain ⟨qyz, ⟨qy0, qy1, qy2, qy3⟩, _⟩ := QY6
  clear E1 E2 E3 E4 E5 E6 X1 X2 X3 X4 X5 P0_1 P1_1 P2_1 P0_2 P1_2 P2_2 P0_3 P1_3 P2_3 P0_4 P1_4 P2_4 P0_5 P1_5 P2_5 QX P0_6 P1_6 P2_6 d0z d0_0 d0_1 d0_2 d0_3 d1z d1_0 d1_1 d1_2 d1_3 d2z d2_0 d2_1 d2_2 d2_3
  go_wp2_with fail
  refine (cl _ (hN.ext (by ((with_reducible (repeat' (first | assumption | exact Ext.refl _ | apply Ext.alloc | apply Ext.drew | apply Ext.drewN | apply Ext.setCell))); all_goals (first | omega | (simp; done) | (simp; omega)))))).mono ?_
  rintro r w7 ⟨rfl, E7⟩
  have X7 : Ext w w7 := Ext.trans (by ((with_reducible (repeat' (first | assumption | exact Ext.refl _ | apply Ext.alloc | apply Ext.drew | apply Ext.drewN | apply Ext.setCell))); all_goals (first | omega | (simp; done) | (simp; omega)))) E7
  go_wp2_with fail
  go_ret
  exact ⟨ret_bool rfl, X7⟩
set_option maxRecDepth 100000 in
theorem way4b (k0 n0 : Int) (s0 : ByteArray) (e0 k1 n1 : Int) (s1 : ByteArray) (e1 k2 n2 : Int) (s2 : ByteArray) (e2 : Int) (w : World) (hN : Nm w) (pk pn : Int) (ps : ByteArray) (pe : Int) (qk qn : Int) (qs : ByteArray) (qe : Int) (rk rn : Int) (rs : ByteArray) (re : Int) (hp : (pk == 0) = false) (hq : (qk == 0) = false) (hr : (rk == 0) = false) (d0 : ∀ W, Calls Tryd.prog 4 #[.agg #[.int .i64 k0, .int .i64 n0, .string s0, .int .i64 e0]] W fun r w' => r = .returned (.agg #[.int .i64 pk, .int .i64 pn, .string ps, .int .i64 pe]) ∧ Ext W w') (d1 : ∀ W, Calls Tryd.prog 4 #[.agg #[.int .i64 k1, .int .i64 n1, .string s1, .int .i64 e1]] W fun r w' => r = .returned (.agg #[.int .i64 qk, .int .i64 qn, .string qs, .int .i64 qe]) ∧ Ext W w') (d2 : ∀ W, Calls Tryd.prog 4 #[.agg #[.int .i64 k2, .int .i64 n2, .string s2, .int .i64 e2]] W fun r w' => r = .returned (.agg #[.int .i64 rk, .int .i64 rn, .string rs, .int .i64 re]) ∧ Ext W w') (I M K : Int) (xk xn : Int) (xs : ByteArray) (xe : Int) (yn : Int) (ys : ByteArray) (ye : Int) (zk zn : Int) (zs : ByteArray) (ze : Int) (hx : (xk == 4) = false) (c1 : ∀ W, Nm W → Calls Tryd.prog 6 #[.agg #[.int .i64 k0, .int .i64 n0, .string s0, .int .i64 e0], .agg #[.int .i64 k1, .int .i64 n1, .string s1, .int .i64 e1]] W fun r w' => r = .returned (.tuple #[.int .i64 I, .agg #[.int .i64 xk, .int .i64 xn, .string xs, .int .i64 xe]]) ∧ Ext W w') (c2 : ∀ W, Nm W → Calls Tryd.prog 6 #[.agg #[.int .i64 k1, .int .i64 n1, .string s1, .int .i64 e1], .agg #[.int .i64 k2, .int .i64 n2, .string s2, .int .i64 e2]] W fun r w' => r = .returned (.tuple #[.int .i64 M, .agg #[.int .i64 4, .int .i64 yn, .string ys, .int .i64 ye]]) ∧ Ext W w') (c3 : ∀ W, Nm W → Calls Tryd.prog 6 #[.agg #[.int .i64 k0, .int .i64 n0, .string s0, .int .i64 e0], .agg #[.int .i64 k2, .int .i64 n2, .string s2, .int .i64 e2]] W fun r w' => r = .returned (.tuple #[.int .i64 K, .agg #[.int .i64 zk, .int .i64 zn, .string zs, .int .i64 ze]]) ∧ Ext W w') :
    Calls Tryd.prog 3 #[.agg #[.int .i64 k0, .int .i64 n0, .string s0, .int .i64 e0], .agg #[.int .i64 k1, .int .i64 n1, .string s1, .int .i64 e1], .agg #[.int .i64 k2, .int .i64 n2, .string s2, .int .i64 e2]] w fun e w' => e = .returned (.bool true) ∧ Ext w w' := by
  have cl := fun W h => lives_v W h
  have fk := field_k
  go_enter Tryd.func3, Tryd.ntmps3
  go_wp2_with fail
  refine (d0 _).mono ?_
  rintro r w1 ⟨rfl, E1⟩
  have X1 : Ext w w1 := Ext.trans (by ((with_reducible (repeat' (first | assumption | exact Ext.refl _ | apply Ext.alloc | apply Ext.drew | apply Ext.drewN | apply Ext.setCell))); all_goals (first | omega | (simp; done) | (simp; omega)))) E1
  have P0_1 := blk_top (b := w.heap.size) (by simp) ((((Ext.refl _).alloc _).alloc _).trans E1)
  have P1_1 := blk_top (b := w.heap.size + 1) (by simp) (((Ext.refl _).alloc _).trans E1)
  have P2_1 := blk_top (b := w.heap.size + 1 + 1) (by simp) E1
  have D0 := P0_1
  obtain ⟨d0z, ⟨d0_0, d0_1, d0_2, d0_3⟩, _⟩ := D0
  have D1 := P1_1
  obtain ⟨d1z, ⟨d1_0, d1_1, d1_2, d1_3⟩, _⟩ := D1
  have D2 := P2_1
  obtain ⟨d2z, ⟨d2_0, d2_1, d2_2, d2_3⟩, _⟩ := D2
  go_wp2_with fail
  refine (d1 _).mono ?_
  rintro r w2 ⟨rfl, E2⟩
  have X2 : Ext w w2 := Ext.trans (by ((with_reducible (repeat' (first | assumption | exact Ext.refl _ | apply Ext.alloc | apply Ext.drew | apply Ext.drewN | apply Ext.setCell))); all_goals (first | omega | (simp; done) | (simp; omega)))) E2
  have P0_2 := P0_1.ext E2
  have P1_2 := P1_1.ext E2
  have P2_2 := P2_1.ext E2
  have D0 := P0_2
  obtain ⟨d0z, ⟨d0_0, d0_1, d0_2, d0_3⟩, _⟩ := D0
  have D1 := P1_2
  obtain ⟨d1z, ⟨d1_0, d1_1, d1_2, d1_3⟩, _⟩ := D1
  have D2 := P2_2
  obtain ⟨d2z, ⟨d2_0, d2_1, d2_2, d2_3⟩, _⟩ := D2
  go_wp2_with fail
  refine (d2 _).mono ?_
  rintro r w3 ⟨rfl, E3⟩
  have X3 : Ext w w3 := Ext.trans (by ((with_reducible (repeat' (first | assumption | exact Ext.refl _ | apply Ext.alloc | apply Ext.drew | apply Ext.drewN | apply Ext.setCell))); all_goals (first | omega | (simp; done) | (simp; omega)))) E3
  have P0_3 := P0_2.ext E3
  have P1_3 := P1_2.ext E3
  have P2_3 := P2_2.ext E3
  have D0 := P0_3
  obtain ⟨d0z, ⟨d0_0, d0_1, d0_2, d0_3⟩, _⟩ := D0
  have D1 := P1_3
  obtain ⟨d1z, ⟨d1_0, d1_1, d1_2, d1_3⟩, _⟩ := D1
  have D2 := P2_3
  obtain ⟨d2z, ⟨d2_0, d2_1, d2_2, d2_3⟩, _⟩ := D2
  go_wp2_with fail
  refine (c1 _ (hN.ext (by ((with_reducible (repeat' (first | assumption | exact Ext.refl _ | apply Ext.alloc | apply Ext.drew | apply Ext.drewN | apply Ext.setCell))); all_goals (first | omega | (simp; done) | (simp; omega)))))).mono ?_
  rintro r w4 ⟨rfl, E4⟩
  have X4 : Ext w w4 := Ext.trans (by ((with_reducible (repeat' (first | assumption | exact Ext.refl _ | apply Ext.alloc | apply Ext.drew | apply Ext.drewN | apply Ext.setCell))); all_goals (first | omega | (simp; done) | (simp; omega)))) E4
  have P0_4 := P0_3.ext E4
  have P1_4 := P1_3.ext E4
  have P2_4 := P2_3.ext E4
  have D0 := P0_4
  obtain ⟨d0z, ⟨d0_0, d0_1, d0_2, d0_3⟩, _⟩ := D0
  have D1 := P1_4
  obtain ⟨d1z, ⟨d1_0, d1_1, d1_2, d1_3⟩, _⟩ := D1
  have D2 := P2_4
  obtain ⟨d2z, ⟨d2_0, d2_1, d2_2, d2_3⟩, _⟩ := D2
  go_wp2_with fail
  refine (c2 _ (hN.ext (by ((with_reducible (repeat' (first | assumption | exact Ext.refl _ | apply Ext.alloc | apply Ext.drew | apply Ext.drewN | apply Ext.setCell))); all_goals (first | omega | (simp; done) | (simp; omega)))))).mono ?_
  rintro r w5 ⟨rfl, E5⟩
  have X5 : Ext w w5 := Ext.trans (by ((with_reducible (repeat' (first | assumption | exact Ext.refl _ | apply Ext.alloc | apply Ext.drew | apply Ext.drewN | apply Ext.setCell))); all_goals (first | omega | (simp; done) | (simp; omega)))) E5
  have P0_5 := (P0_4.al _).ext E5
  have P1_5 := (P1_4.al _).ext E5
  have P2_5 := (P2_4.al _).ext E5
  have D0 := P0_5
  obtain ⟨d0z, ⟨d0_0, d0_1, d0_2, d0_3⟩, _⟩ := D0
  have D1 := P1_5
  obtain ⟨d1z, ⟨d1_0, d1_1, d1_2, d1_3⟩, _⟩ := D1
  have D2 := P2_5
  obtain ⟨d2z, ⟨d2_0, d2_1, d2_2, d2_3⟩, _⟩ := D2
  have QX := blk_top (b := w4.heap.size) rfl E5
  go_wp2_with fail
  refine (c3 _ (hN.ext (by ((with_reducible (repeat' (first | assumption | exact Ext.refl _ | apply Ext.alloc | apply Ext.drew | apply Ext.drewN | apply Ext.setCell))); all_goals (first | omega | (simp; done) | (simp; omega)))))).mono ?_
  rintro r w6 ⟨rfl, E6⟩
  have X6 : Ext w w6 := Ext.trans (by ((with_reducible (repeat' (first | assumption | exact Ext.refl _ | apply Ext.alloc | apply Ext.drew | apply Ext.drewN | apply Ext.setCell))); all_goals (first | omega | (simp; done) | (simp; omega)))) E6
  have P0_6 := (P0_5.al _).ext E6
  have P1_6 := (P1_5.al _).ext E6
  have P2_6 := (P2_5.al _).ext E6
  have D0 := P0_6
  obtain ⟨d0z, ⟨d0_0, d0_1, d0_2, d0_3⟩, _⟩ := D0
  have D1 := P1_6
  obtain ⟨d1z, ⟨d1_0, d1_1, d1_2, d1_3⟩, _⟩ := D1
  have D2 := P2_6
  obtain ⟨d2z, ⟨d2_0, d2_1, d2_2, d2_3⟩, _⟩ := D2
  have QX6 := (QX.al _).ext E6
  have QY6 := blk_top (b := w5.heap.size) rfl E6
  obtain ⟨qxz, ⟨qx0, qx1, qx2, qx3⟩, _⟩ := QX6
  obtain ⟨qyz, ⟨qy0, qy1, qy2, qy3⟩, _⟩ := QY6
  clear E1 E2 E3 E4 E5 E6 X1 X2 X3 X4 X5 P0_1 P1_1 P2_1 P0_2 P1_2 P2_2 P0_3 P1_3 P2_3 P0_4 P1_4 P2_4 P0_5 P1_5 P2_5 QX P0_6 P1_6 P2_6 d0z d0_0 d0_1 d0_2 d0_3 d1z d1_0 d1_1 d1_2 d1_3 d2z d2_0 d2_1 d2_2 d2_3
  go_wp2_with fail
  refine (cl _ (hN.ext (by ((with_reducible (repeat' (first | assumption | exact Ext.refl _ | apply Ext.alloc | apply Ext.drew | apply Ext.drewN | apply Ext.setCell))); all_goals (first | omega | (simp; done) | (simp; omega)))))).mono ?_
  rintro r w7 ⟨rfl, E7⟩
  have X7 : Ext w w7 := Ext.trans (by ((with_reducible (repeat' (first | assumption | exact Ext.refl _ | apply Ext.alloc | apply Ext.drew | apply Ext.drewN | apply Ext.setCell))); all_goals (first | omega | (simp; done) | (simp; omega)))) E7
  go_wp2_with fail
  go_ret
  exact ⟨ret_bool rfl, X7⟩
set_option maxRecDepth 100000 in
theorem way4c (k0 n0 : Int) (s0 : ByteArray) (e0 k1 n1 : Int) (s1 : ByteArray) (e1 k2 n2 : Int) (s2 : ByteArray) (e2 : Int) (w : World) (hN : Nm w) (pk pn : Int) (ps : ByteArray) (pe : Int) (qk qn : Int) (qs : ByteArray) (qe : Int) (rk rn : Int) (rs : ByteArray) (re : Int) (hp : (pk == 0) = false) (hq : (qk == 0) = false) (hr : (rk == 0) = false) (d0 : ∀ W, Calls Tryd.prog 4 #[.agg #[.int .i64 k0, .int .i64 n0, .string s0, .int .i64 e0]] W fun r w' => r = .returned (.agg #[.int .i64 pk, .int .i64 pn, .string ps, .int .i64 pe]) ∧ Ext W w') (d1 : ∀ W, Calls Tryd.prog 4 #[.agg #[.int .i64 k1, .int .i64 n1, .string s1, .int .i64 e1]] W fun r w' => r = .returned (.agg #[.int .i64 qk, .int .i64 qn, .string qs, .int .i64 qe]) ∧ Ext W w') (d2 : ∀ W, Calls Tryd.prog 4 #[.agg #[.int .i64 k2, .int .i64 n2, .string s2, .int .i64 e2]] W fun r w' => r = .returned (.agg #[.int .i64 rk, .int .i64 rn, .string rs, .int .i64 re]) ∧ Ext W w') (I M K : Int) (xk xn : Int) (xs : ByteArray) (xe : Int) (yk yn : Int) (ys : ByteArray) (ye : Int) (zn : Int) (zs : ByteArray) (ze : Int) (hx : (xk == 4) = false) (hy : (yk == 4) = false) (c1 : ∀ W, Nm W → Calls Tryd.prog 6 #[.agg #[.int .i64 k0, .int .i64 n0, .string s0, .int .i64 e0], .agg #[.int .i64 k1, .int .i64 n1, .string s1, .int .i64 e1]] W fun r w' => r = .returned (.tuple #[.int .i64 I, .agg #[.int .i64 xk, .int .i64 xn, .string xs, .int .i64 xe]]) ∧ Ext W w') (c2 : ∀ W, Nm W → Calls Tryd.prog 6 #[.agg #[.int .i64 k1, .int .i64 n1, .string s1, .int .i64 e1], .agg #[.int .i64 k2, .int .i64 n2, .string s2, .int .i64 e2]] W fun r w' => r = .returned (.tuple #[.int .i64 M, .agg #[.int .i64 yk, .int .i64 yn, .string ys, .int .i64 ye]]) ∧ Ext W w') (c3 : ∀ W, Nm W → Calls Tryd.prog 6 #[.agg #[.int .i64 k0, .int .i64 n0, .string s0, .int .i64 e0], .agg #[.int .i64 k2, .int .i64 n2, .string s2, .int .i64 e2]] W fun r w' => r = .returned (.tuple #[.int .i64 K, .agg #[.int .i64 4, .int .i64 zn, .string zs, .int .i64 ze]]) ∧ Ext W w') :
    Calls Tryd.prog 3 #[.agg #[.int .i64 k0, .int .i64 n0, .string s0, .int .i64 e0], .agg #[.int .i64 k1, .int .i64 n1, .string s1, .int .i64 e1], .agg #[.int .i64 k2, .int .i64 n2, .string s2, .int .i64 e2]] w fun e w' => e = .returned (.bool true) ∧ Ext w w' := by
  have cl := fun W h => lives_v W h
  have fk := field_k
  go_enter Tryd.func3, Tryd.ntmps3
  go_wp2_with fail
  refine (d0 _).mono ?_
  rintro r w1 ⟨rfl, E1⟩
  have X1 : Ext w w1 := Ext.trans (by ((with_reducible (repeat' (first | assumption | exact Ext.refl _ | apply Ext.alloc | apply Ext.drew | apply Ext.drewN | apply Ext.setCell))); all_goals (first | omega | (simp; done) | (simp; omega)))) E1
  have P0_1 := blk_top (b := w.heap.size) (by simp) ((((Ext.refl _).alloc _).alloc _).trans E1)
  have P1_1 := blk_top (b := w.heap.size + 1) (by simp) (((Ext.refl _).alloc _).trans E1)
  have P2_1 := blk_top (b := w.heap.size + 1 + 1) (by simp) E1
  have D0 := P0_1
  obtain ⟨d0z, ⟨d0_0, d0_1, d0_2, d0_3⟩, _⟩ := D0
  have D1 := P1_1
  obtain ⟨d1z, ⟨d1_0, d1_1, d1_2, d1_3⟩, _⟩ := D1
  have D2 := P2_1
  obtain ⟨d2z, ⟨d2_0, d2_1, d2_2, d2_3⟩, _⟩ := D2
  go_wp2_with fail
  refine (d1 _).mono ?_
  rintro r w2 ⟨rfl, E2⟩
  have X2 : Ext w w2 := Ext.trans (by ((with_reducible (repeat' (first | assumption | exact Ext.refl _ | apply Ext.alloc | apply Ext.drew | apply Ext.drewN | apply Ext.setCell))); all_goals (first | omega | (simp; done) | (simp; omega)))) E2
  have P0_2 := P0_1.ext E2
  have P1_2 := P1_1.ext E2
  have P2_2 := P2_1.ext E2
  have D0 := P0_2
  obtain ⟨d0z, ⟨d0_0, d0_1, d0_2, d0_3⟩, _⟩ := D0
  have D1 := P1_2
  obtain ⟨d1z, ⟨d1_0, d1_1, d1_2, d1_3⟩, _⟩ := D1
  have D2 := P2_2
  obtain ⟨d2z, ⟨d2_0, d2_1, d2_2, d2_3⟩, _⟩ := D2
  go_wp2_with fail
  refine (d2 _).mono ?_
  rintro r w3 ⟨rfl, E3⟩
  have X3 : Ext w w3 := Ext.trans (by ((with_reducible (repeat' (first | assumption | exact Ext.refl _ | apply Ext.alloc | apply Ext.drew | apply Ext.drewN | apply Ext.setCell))); all_goals (first | omega | (simp; done) | (simp; omega)))) E3
  have P0_3 := P0_2.ext E3
  have P1_3 := P1_2.ext E3
  have P2_3 := P2_2.ext E3
  have D0 := P0_3
  obtain ⟨d0z, ⟨d0_0, d0_1, d0_2, d0_3⟩, _⟩ := D0
  have D1 := P1_3
  obtain ⟨d1z, ⟨d1_0, d1_1, d1_2, d1_3⟩, _⟩ := D1
  have D2 := P2_3
  obtain ⟨d2z, ⟨d2_0, d2_1, d2_2, d2_3⟩, _⟩ := D2
  go_wp2_with fail
  refine (c1 _ (hN.ext (by ((with_reducible (repeat' (first | assumption | exact Ext.refl _ | apply Ext.alloc | apply Ext.drew | apply Ext.drewN | apply Ext.setCell))); all_goals (first | omega | (simp; done) | (simp; omega)))))).mono ?_
  rintro r w4 ⟨rfl, E4⟩
  have X4 : Ext w w4 := Ext.trans (by ((with_reducible (repeat' (first | assumption | exact Ext.refl _ | apply Ext.alloc | apply Ext.drew | apply Ext.drewN | apply Ext.setCell))); all_goals (first | omega | (simp; done) | (simp; omega)))) E4
  have P0_4 := P0_3.ext E4
  have P1_4 := P1_3.ext E4
  have P2_4 := P2_3.ext E4
  have D0 := P0_4
  obtain ⟨d0z, ⟨d0_0, d0_1, d0_2, d0_3⟩, _⟩ := D0
  have D1 := P1_4
  obtain ⟨d1z, ⟨d1_0, d1_1, d1_2, d1_3⟩, _⟩ := D1
  have D2 := P2_4
  obtain ⟨d2z, ⟨d2_0, d2_1, d2_2, d2_3⟩, _⟩ := D2
  go_wp2_with fail
  refine (c2 _ (hN.ext (by ((with_reducible (repeat' (first | assumption | exact Ext.refl _ | apply Ext.alloc | apply Ext.drew | apply Ext.drewN | apply Ext.setCell))); all_goals (first | omega | (simp; done) | (simp; omega)))))).mono ?_
  rintro r w5 ⟨rfl, E5⟩
  have X5 : Ext w w5 := Ext.trans (by ((with_reducible (repeat' (first | assumption | exact Ext.refl _ | apply Ext.alloc | apply Ext.drew | apply Ext.drewN | apply Ext.setCell))); all_goals (first | omega | (simp; done) | (simp; omega)))) E5
  have P0_5 := (P0_4.al _).ext E5
  have P1_5 := (P1_4.al _).ext E5
  have P2_5 := (P2_4.al _).ext E5
  have D0 := P0_5
  obtain ⟨d0z, ⟨d0_0, d0_1, d0_2, d0_3⟩, _⟩ := D0
  have D1 := P1_5
  obtain ⟨d1z, ⟨d1_0, d1_1, d1_2, d1_3⟩, _⟩ := D1
  have D2 := P2_5
  obtain ⟨d2z, ⟨d2_0, d2_1, d2_2, d2_3⟩, _⟩ := D2
  have QX := blk_top (b := w4.heap.size) rfl E5
  go_wp2_with fail
  refine (c3 _ (hN.ext (by ((with_reducible (repeat' (first | assumption | exact Ext.refl _ | apply Ext.alloc | apply Ext.drew | apply Ext.drewN | apply Ext.setCell))); all_goals (first | omega | (simp; done) | (simp; omega)))))).mono ?_
  rintro r w6 ⟨rfl, E6⟩
  have X6 : Ext w w6 := Ext.trans (by ((with_reducible (repeat' (first | assumption | exact Ext.refl _ | apply Ext.alloc | apply Ext.drew | apply Ext.drewN | apply Ext.setCell))); all_goals (first | omega | (simp; done) | (simp; omega)))) E6
  have P0_6 := (P0_5.al _).ext E6
  have P1_6 := (P1_5.al _).ext E6
  have P2_6 := (P2_5.al _).ext E6
  have D0 := P0_6
  obtain ⟨d0z, ⟨d0_0, d0_1, d0_2, d0_3⟩, _⟩ := D0
  have D1 := P1_6
  obtain ⟨d1z, ⟨d1_0, d1_1, d1_2, d1_3⟩, _⟩ := D1
  have D2 := P2_6
  obtain ⟨d2z, ⟨d2_0, d2_1, d2_2, d2_3⟩, _⟩ := D2
  have QX6 := (QX.al _).ext E6
  have QY6 := blk_top (b := w5.heap.size) rfl E6
  obtain ⟨qxz, ⟨qx0, qx1, qx2, qx3⟩, _⟩ := QX6
  obtain ⟨qyz, ⟨qy0, qy1, qy2, qy3⟩, _⟩ := QY6
  clear E1 E2 E3 E4 E5 E6 X1 X2 X3 X4 X5 P0_1 P1_1 P2_1 P0_2 P1_2 P2_2 P0_3 P1_3 P2_3 P0_4 P1_4 P2_4 P0_5 P1_5 P2_5 QX P0_6 P1_6 P2_6 d0z d0_0 d0_1 d0_2 d0_3 d1z d1_0 d1_1 d1_2 d1_3 d2z d2_0 d2_1 d2_2 d2_3
  go_wp2_with fail
  refine (cl _ (hN.ext (by ((with_reducible (repeat' (first | assumption | exact Ext.refl _ | apply Ext.alloc | apply Ext.drew | apply Ext.drewN | apply Ext.setCell))); all_goals (first | omega | (simp; done) | (simp; omega)))))).mono ?_
  rintro r w7 ⟨rfl, E7⟩
  have X7 : Ext w w7 := Ext.trans (by ((with_reducible (repeat' (first | assumption | exact Ext.refl _ | apply Ext.alloc | apply Ext.drew | apply Ext.drewN | apply Ext.setCell))); all_goals (first | omega | (simp; done) | (simp; omega)))) E7
  go_wp2_with fail
  go_ret
  exact ⟨ret_bool rfl, X7⟩
set_option maxRecDepth 100000 in
theorem way5a (k0 n0 : Int) (s0 : ByteArray) (e0 k1 n1 : Int) (s1 : ByteArray) (e1 k2 n2 : Int) (s2 : ByteArray) (e2 : Int) (w : World) (hN : Nm w) (pk pn : Int) (ps : ByteArray) (pe : Int) (qk qn : Int) (qs : ByteArray) (qe : Int) (rk rn : Int) (rs : ByteArray) (re : Int) (hp : (pk == 0) = false) (hq : (qk == 0) = false) (hr : (rk == 0) = false) (d0 : ∀ W, Calls Tryd.prog 4 #[.agg #[.int .i64 k0, .int .i64 n0, .string s0, .int .i64 e0]] W fun r w' => r = .returned (.agg #[.int .i64 pk, .int .i64 pn, .string ps, .int .i64 pe]) ∧ Ext W w') (d1 : ∀ W, Calls Tryd.prog 4 #[.agg #[.int .i64 k1, .int .i64 n1, .string s1, .int .i64 e1]] W fun r w' => r = .returned (.agg #[.int .i64 qk, .int .i64 qn, .string qs, .int .i64 qe]) ∧ Ext W w') (d2 : ∀ W, Calls Tryd.prog 4 #[.agg #[.int .i64 k2, .int .i64 n2, .string s2, .int .i64 e2]] W fun r w' => r = .returned (.agg #[.int .i64 rk, .int .i64 rn, .string rs, .int .i64 re]) ∧ Ext W w') (M K : Int) (xk xn : Int) (xs : ByteArray) (xe : Int) (yk yn : Int) (ys : ByteArray) (ye : Int) (zk zn : Int) (zs : ByteArray) (ze : Int) (hx : (xk == 4) = false) (hy : (yk == 4) = false) (hz : (zk == 4) = false) (c1 : ∀ W, Nm W → Calls Tryd.prog 6 #[.agg #[.int .i64 k0, .int .i64 n0, .string s0, .int .i64 e0], .agg #[.int .i64 k1, .int .i64 n1, .string s1, .int .i64 e1]] W fun r w' => r = .returned (.tuple #[.int .i64 (1), .agg #[.int .i64 xk, .int .i64 xn, .string xs, .int .i64 xe]]) ∧ Ext W w') (c2 : ∀ W, Nm W → Calls Tryd.prog 6 #[.agg #[.int .i64 k1, .int .i64 n1, .string s1, .int .i64 e1], .agg #[.int .i64 k2, .int .i64 n2, .string s2, .int .i64 e2]] W fun r w' => r = .returned (.tuple #[.int .i64 (M), .agg #[.int .i64 yk, .int .i64 yn, .string ys, .int .i64 ye]]) ∧ Ext W w') (c3 : ∀ W, Nm W → Calls Tryd.prog 6 #[.agg #[.int .i64 k0, .int .i64 n0, .string s0, .int .i64 e0], .agg #[.int .i64 k2, .int .i64 n2, .string s2, .int .i64 e2]] W fun r w' => r = .returned (.tuple #[.int .i64 (K), .agg #[.int .i64 zk, .int .i64 zn, .string zs, .int .i64 ze]]) ∧ Ext W w') :
    Calls Tryd.prog 3 #[.agg #[.int .i64 k0, .int .i64 n0, .string s0, .int .i64 e0], .agg #[.int .i64 k1, .int .i64 n1, .string s1, .int .i64 e1], .agg #[.int .i64 k2, .int .i64 n2, .string s2, .int .i64 e2]] w fun e w' => e = .returned (.bool true) ∧ Ext w w' := by
  have cl := fun W h => lives_v W h
  have fk := field_k
  go_enter Tryd.func3, Tryd.ntmps3
  go_wp2_with fail
  refine (d0 _).mono ?_
  rintro r w1 ⟨rfl, E1⟩
  have X1 : Ext w w1 := Ext.trans (by ((with_reducible (repeat' (first | assumption | exact Ext.refl _ | apply Ext.alloc | apply Ext.drew | apply Ext.drewN | apply Ext.setCell))); all_goals (first | omega | (simp; done) | (simp; omega)))) E1
  have P0_1 := blk_top (b := w.heap.size) (by simp) ((((Ext.refl _).alloc _).alloc _).trans E1)
  have P1_1 := blk_top (b := w.heap.size + 1) (by simp) (((Ext.refl _).alloc _).trans E1)
  have P2_1 := blk_top (b := w.heap.size + 1 + 1) (by simp) E1
  have D0 := P0_1
  obtain ⟨d0z, ⟨d0_0, d0_1, d0_2, d0_3⟩, _⟩ := D0
  have D1 := P1_1
  obtain ⟨d1z, ⟨d1_0, d1_1, d1_2, d1_3⟩, _⟩ := D1
  have D2 := P2_1
  obtain ⟨d2z, ⟨d2_0, d2_1, d2_2, d2_3⟩, _⟩ := D2
  go_wp2_with fail
  refine (d1 _).mono ?_
  rintro r w2 ⟨rfl, E2⟩
  have X2 : Ext w w2 := Ext.trans (by ((with_reducible (repeat' (first | assumption | exact Ext.refl _ | apply Ext.alloc | apply Ext.drew | apply Ext.drewN | apply Ext.setCell))); all_goals (first | omega | (simp; done) | (simp; omega)))) E2
  have P0_2 := P0_1.ext E2
  have P1_2 := P1_1.ext E2
  have P2_2 := P2_1.ext E2
  have D0 := P0_2
  obtain ⟨d0z, ⟨d0_0, d0_1, d0_2, d0_3⟩, _⟩ := D0
  have D1 := P1_2
  obtain ⟨d1z, ⟨d1_0, d1_1, d1_2, d1_3⟩, _⟩ := D1
  have D2 := P2_2
  obtain ⟨d2z, ⟨d2_0, d2_1, d2_2, d2_3⟩, _⟩ := D2
  go_wp2_with fail
  refine (d2 _).mono ?_
  rintro r w3 ⟨rfl, E3⟩
  have X3 : Ext w w3 := Ext.trans (by ((with_reducible (repeat' (first | assumption | exact Ext.refl _ | apply Ext.alloc | apply Ext.drew | apply Ext.drewN | apply Ext.setCell))); all_goals (first | omega | (simp; done) | (simp; omega)))) E3
  have P0_3 := P0_2.ext E3
  have P1_3 := P1_2.ext E3
  have P2_3 := P2_2.ext E3
  have D0 := P0_3
  obtain ⟨d0z, ⟨d0_0, d0_1, d0_2, d0_3⟩, _⟩ := D0
  have D1 := P1_3
  obtain ⟨d1z, ⟨d1_0, d1_1, d1_2, d1_3⟩, _⟩ := D1
  have D2 := P2_3
  obtain ⟨d2z, ⟨d2_0, d2_1, d2_2, d2_3⟩, _⟩ := D2
  go_wp2_with fail
  refine (c1 _ (hN.ext (by ((with_reducible (repeat' (first | assumption | exact Ext.refl _ | apply Ext.alloc | apply Ext.drew | apply Ext.drewN | apply Ext.setCell))); all_goals (first | omega | (simp; done) | (simp; omega)))))).mono ?_
  rintro r w4 ⟨rfl, E4⟩
  have X4 : Ext w w4 := Ext.trans (by ((with_reducible (repeat' (first | assumption | exact Ext.refl _ | apply Ext.alloc | apply Ext.drew | apply Ext.drewN | apply Ext.setCell))); all_goals (first | omega | (simp; done) | (simp; omega)))) E4
  have P0_4 := P0_3.ext E4
  have P1_4 := P1_3.ext E4
  have P2_4 := P2_3.ext E4
  have D0 := P0_4
  obtain ⟨d0z, ⟨d0_0, d0_1, d0_2, d0_3⟩, _⟩ := D0
  have D1 := P1_4
  obtain ⟨d1z, ⟨d1_0, d1_1, d1_2, d1_3⟩, _⟩ := D1
  have D2 := P2_4
  obtain ⟨d2z, ⟨d2_0, d2_1, d2_2, d2_3⟩, _⟩ := D2
  go_wp2_with fail
  refine (c2 _ (hN.ext (by ((with_reducible (repeat' (first | assumption | exact Ext.refl _ | apply Ext.alloc | apply Ext.drew | apply Ext.drewN | apply Ext.setCell))); all_goals (first | omega | (simp; done) | (simp; omega)))))).mono ?_
  rintro r w5 ⟨rfl, E5⟩
  have X5 : Ext w w5 := Ext.trans (by ((with_reducible (repeat' (first | assumption | exact Ext.refl _ | apply Ext.alloc | apply Ext.drew | apply Ext.drewN | apply Ext.setCell))); all_goals (first | omega | (simp; done) | (simp; omega)))) E5
  have P0_5 := (P0_4.al _).ext E5
  have P1_5 := (P1_4.al _).ext E5
  have P2_5 := (P2_4.al _).ext E5
  have D0 := P0_5
  obtain ⟨d0z, ⟨d0_0, d0_1, d0_2, d0_3⟩, _⟩ := D0
  have D1 := P1_5
  obtain ⟨d1z, ⟨d1_0, d1_1, d1_2, d1_3⟩, _⟩ := D1
  have D2 := P2_5
  obtain ⟨d2z, ⟨d2_0, d2_1, d2_2, d2_3⟩, _⟩ := D2
  have QX := blk_top (b := w4.heap.size) rfl E5
  go_wp2_with fail
  refine (c3 _ (hN.ext (by ((with_reducible (repeat' (first | assumption | exact Ext.refl _ | apply Ext.alloc | apply Ext.drew | apply Ext.drewN | apply Ext.setCell))); all_goals (first | omega | (simp; done) | (simp; omega)))))).mono ?_
  rintro r w6 ⟨rfl, E6⟩
  have X6 : Ext w w6 := Ext.trans (by ((with_reducible (repeat' (first | assumption | exact Ext.refl _ | apply Ext.alloc | apply Ext.drew | apply Ext.drewN | apply Ext.setCell))); all_goals (first | omega | (simp; done) | (simp; omega)))) E6
  have P0_6 := (P0_5.al _).ext E6
  have P1_6 := (P1_5.al _).ext E6
  have P2_6 := (P2_5.al _).ext E6
  have D0 := P0_6
  obtain ⟨d0z, ⟨d0_0, d0_1, d0_2, d0_3⟩, _⟩ := D0
  have D1 := P1_6
  obtain ⟨d1z, ⟨d1_0, d1_1, d1_2, d1_3⟩, _⟩ := D1
  have D2 := P2_6
  obtain ⟨d2z, ⟨d2_0, d2_1, d2_2, d2_3⟩, _⟩ := D2
  have QX6 := (QX.al _).ext E6
  have QY6 := blk_top (b := w5.heap.size) rfl E6
  obtain ⟨qxz, ⟨qx0, qx1, qx2, qx3⟩, _⟩ := QX6
  obtain ⟨qyz, ⟨qy0, qy1, qy2, qy3⟩, _⟩ := QY6
  clear E1 E2 E3 E4 E5 E6 X1 X2 X3 X4 X5 P0_1 P1_1 P2_1 P0_2 P1_2 P2_2 P0_3 P1_3 P2_3 P0_4 P1_4 P2_4 P0_5 P1_5 P2_5 QX P0_6 P1_6 P2_6 d0z d0_0 d0_1 d0_2 d0_3 d1z d1_0 d1_1 d1_2 d1_3 d2z d2_0 d2_1 d2_2 d2_3
  go_wp2_with fail
  refine (cl _ (hN.ext (by ((with_reducible (repeat' (first | assumption | exact Ext.refl _ | apply Ext.alloc | apply Ext.drew | apply Ext.drewN | apply Ext.setCell))); all_goals (first | omega | (simp; done) | (simp; omega)))))).mono ?_
  rintro r w7 ⟨rfl, E7⟩
  have X7 : Ext w w7 := Ext.trans (by ((with_reducible (repeat' (first | assumption | exact Ext.refl _ | apply Ext.alloc | apply Ext.drew | apply Ext.drewN | apply Ext.setCell))); all_goals (first | omega | (simp; done) | (simp; omega)))) E7
  go_wp2_with fail
  go_ret
  exact ⟨ret_bool rfl, X7⟩
set_option maxRecDepth 100000 in
theorem way5b (k0 n0 : Int) (s0 : ByteArray) (e0 k1 n1 : Int) (s1 : ByteArray) (e1 k2 n2 : Int) (s2 : ByteArray) (e2 : Int) (w : World) (hN : Nm w) (pk pn : Int) (ps : ByteArray) (pe : Int) (qk qn : Int) (qs : ByteArray) (qe : Int) (rk rn : Int) (rs : ByteArray) (re : Int) (hp : (pk == 0) = false) (hq : (qk == 0) = false) (hr : (rk == 0) = false) (d0 : ∀ W, Calls Tryd.prog 4 #[.agg #[.int .i64 k0, .int .i64 n0, .string s0, .int .i64 e0]] W fun r w' => r = .returned (.agg #[.int .i64 pk, .int .i64 pn, .string ps, .int .i64 pe]) ∧ Ext W w') (d1 : ∀ W, Calls Tryd.prog 4 #[.agg #[.int .i64 k1, .int .i64 n1, .string s1, .int .i64 e1]] W fun r w' => r = .returned (.agg #[.int .i64 qk, .int .i64 qn, .string qs, .int .i64 qe]) ∧ Ext W w') (d2 : ∀ W, Calls Tryd.prog 4 #[.agg #[.int .i64 k2, .int .i64 n2, .string s2, .int .i64 e2]] W fun r w' => r = .returned (.agg #[.int .i64 rk, .int .i64 rn, .string rs, .int .i64 re]) ∧ Ext W w') (K : Int) (xk xn : Int) (xs : ByteArray) (xe : Int) (yk yn : Int) (ys : ByteArray) (ye : Int) (zk zn : Int) (zs : ByteArray) (ze : Int) (hx : (xk == 4) = false) (hy : (yk == 4) = false) (hz : (zk == 4) = false) (c1 : ∀ W, Nm W → Calls Tryd.prog 6 #[.agg #[.int .i64 k0, .int .i64 n0, .string s0, .int .i64 e0], .agg #[.int .i64 k1, .int .i64 n1, .string s1, .int .i64 e1]] W fun r w' => r = .returned (.tuple #[.int .i64 (0), .agg #[.int .i64 xk, .int .i64 xn, .string xs, .int .i64 xe]]) ∧ Ext W w') (c2 : ∀ W, Nm W → Calls Tryd.prog 6 #[.agg #[.int .i64 k1, .int .i64 n1, .string s1, .int .i64 e1], .agg #[.int .i64 k2, .int .i64 n2, .string s2, .int .i64 e2]] W fun r w' => r = .returned (.tuple #[.int .i64 (1), .agg #[.int .i64 yk, .int .i64 yn, .string ys, .int .i64 ye]]) ∧ Ext W w') (c3 : ∀ W, Nm W → Calls Tryd.prog 6 #[.agg #[.int .i64 k0, .int .i64 n0, .string s0, .int .i64 e0], .agg #[.int .i64 k2, .int .i64 n2, .string s2, .int .i64 e2]] W fun r w' => r = .returned (.tuple #[.int .i64 (K), .agg #[.int .i64 zk, .int .i64 zn, .string zs, .int .i64 ze]]) ∧ Ext W w') :
    Calls Tryd.prog 3 #[.agg #[.int .i64 k0, .int .i64 n0, .string s0, .int .i64 e0], .agg #[.int .i64 k1, .int .i64 n1, .string s1, .int .i64 e1], .agg #[.int .i64 k2, .int .i64 n2, .string s2, .int .i64 e2]] w fun e w' => e = .returned (.bool true) ∧ Ext w w' := by
  have cl := fun W h => lives_v W h
  have fk := field_k
  go_enter Tryd.func3, Tryd.ntmps3
  go_wp2_with fail
  refine (d0 _).mono ?_
  rintro r w1 ⟨rfl, E1⟩
  have X1 : Ext w w1 := Ext.trans (by ((with_reducible (repeat' (first | assumption | exact Ext.refl _ | apply Ext.alloc | apply Ext.drew | apply Ext.drewN | apply Ext.setCell))); all_goals (first | omega | (simp; done) | (simp; omega)))) E1
  have P0_1 := blk_top (b := w.heap.size) (by simp) ((((Ext.refl _).alloc _).alloc _).trans E1)
  have P1_1 := blk_top (b := w.heap.size + 1) (by simp) (((Ext.refl _).alloc _).trans E1)
  have P2_1 := blk_top (b := w.heap.size + 1 + 1) (by simp) E1
  have D0 := P0_1
  obtain ⟨d0z, ⟨d0_0, d0_1, d0_2, d0_3⟩, _⟩ := D0
  have D1 := P1_1
  obtain ⟨d1z, ⟨d1_0, d1_1, d1_2, d1_3⟩, _⟩ := D1
  have D2 := P2_1
  obtain ⟨d2z, ⟨d2_0, d2_1, d2_2, d2_3⟩, _⟩ := D2
  go_wp2_with fail
  refine (d1 _).mono ?_
  rintro r w2 ⟨rfl, E2⟩
  have X2 : Ext w w2 := Ext.trans (by ((with_reducible (repeat' (first | assumption | exact Ext.refl _ | apply Ext.alloc | apply Ext.drew | apply Ext.drewN | apply Ext.setCell))); all_goals (first | omega | (simp; done) | (simp; omega)))) E2
  have P0_2 := P0_1.ext E2
  have P1_2 := P1_1.ext E2
  have P2_2 := P2_1.ext E2
  have D0 := P0_2
  obtain ⟨d0z, ⟨d0_0, d0_1, d0_2, d0_3⟩, _⟩ := D0
  have D1 := P1_2
  obtain ⟨d1z, ⟨d1_0, d1_1, d1_2, d1_3⟩, _⟩ := D1
  have D2 := P2_2
  obtain ⟨d2z, ⟨d2_0, d2_1, d2_2, d2_3⟩, _⟩ := D2
  go_wp2_with fail
  refine (d2 _).mono ?_
  rintro r w3 ⟨rfl, E3⟩
  have X3 : Ext w w3 := Ext.trans (by ((with_reducible (repeat' (first | assumption | exact Ext.refl _ | apply Ext.alloc | apply Ext.drew | apply Ext.drewN | apply Ext.setCell))); all_goals (first | omega | (simp; done) | (simp; omega)))) E3
  have P0_3 := P0_2.ext E3
  have P1_3 := P1_2.ext E3
  have P2_3 := P2_2.ext E3
  have D0 := P0_3
  obtain ⟨d0z, ⟨d0_0, d0_1, d0_2, d0_3⟩, _⟩ := D0
  have D1 := P1_3
  obtain ⟨d1z, ⟨d1_0, d1_1, d1_2, d1_3⟩, _⟩ := D1
  have D2 := P2_3
  obtain ⟨d2z, ⟨d2_0, d2_1, d2_2, d2_3⟩, _⟩ := D2
  go_wp2_with fail
  refine (c1 _ (hN.ext (by ((with_reducible (repeat' (first | assumption | exact Ext.refl _ | apply Ext.alloc | apply Ext.drew | apply Ext.drewN | apply Ext.setCell))); all_goals (first | omega | (simp; done) | (simp; omega)))))).mono ?_
  rintro r w4 ⟨rfl, E4⟩
  have X4 : Ext w w4 := Ext.trans (by ((with_reducible (repeat' (first | assumption | exact Ext.refl _ | apply Ext.alloc | apply Ext.drew | apply Ext.drewN | apply Ext.setCell))); all_goals (first | omega | (simp; done) | (simp; omega)))) E4
  have P0_4 := P0_3.ext E4
  have P1_4 := P1_3.ext E4
  have P2_4 := P2_3.ext E4
  have D0 := P0_4
  obtain ⟨d0z, ⟨d0_0, d0_1, d0_2, d0_3⟩, _⟩ := D0
  have D1 := P1_4
  obtain ⟨d1z, ⟨d1_0, d1_1, d1_2, d1_3⟩, _⟩ := D1
  have D2 := P2_4
  obtain ⟨d2z, ⟨d2_0, d2_1, d2_2, d2_3⟩, _⟩ := D2
  go_wp2_with fail
  refine (c2 _ (hN.ext (by ((with_reducible (repeat' (first | assumption | exact Ext.refl _ | apply Ext.alloc | apply Ext.drew | apply Ext.drewN | apply Ext.setCell))); all_goals (first | omega | (simp; done) | (simp; omega)))))).mono ?_
  rintro r w5 ⟨rfl, E5⟩
  have X5 : Ext w w5 := Ext.trans (by ((with_reducible (repeat' (first | assumption | exact Ext.refl _ | apply Ext.alloc | apply Ext.drew | apply Ext.drewN | apply Ext.setCell))); all_goals (first | omega | (simp; done) | (simp; omega)))) E5
  have P0_5 := (P0_4.al _).ext E5
  have P1_5 := (P1_4.al _).ext E5
  have P2_5 := (P2_4.al _).ext E5
  have D0 := P0_5
  obtain ⟨d0z, ⟨d0_0, d0_1, d0_2, d0_3⟩, _⟩ := D0
  have D1 := P1_5
  obtain ⟨d1z, ⟨d1_0, d1_1, d1_2, d1_3⟩, _⟩ := D1
  have D2 := P2_5
  obtain ⟨d2z, ⟨d2_0, d2_1, d2_2, d2_3⟩, _⟩ := D2
  have QX := blk_top (b := w4.heap.size) rfl E5
  go_wp2_with fail
  refine (c3 _ (hN.ext (by ((with_reducible (repeat' (first | assumption | exact Ext.refl _ | apply Ext.alloc | apply Ext.drew | apply Ext.drewN | apply Ext.setCell))); all_goals (first | omega | (simp; done) | (simp; omega)))))).mono ?_
  rintro r w6 ⟨rfl, E6⟩
  have X6 : Ext w w6 := Ext.trans (by ((with_reducible (repeat' (first | assumption | exact Ext.refl _ | apply Ext.alloc | apply Ext.drew | apply Ext.drewN | apply Ext.setCell))); all_goals (first | omega | (simp; done) | (simp; omega)))) E6
  have P0_6 := (P0_5.al _).ext E6
  have P1_6 := (P1_5.al _).ext E6
  have P2_6 := (P2_5.al _).ext E6
  have D0 := P0_6
  obtain ⟨d0z, ⟨d0_0, d0_1, d0_2, d0_3⟩, _⟩ := D0
  have D1 := P1_6
  obtain ⟨d1z, ⟨d1_0, d1_1, d1_2, d1_3⟩, _⟩ := D1
  have D2 := P2_6
  obtain ⟨d2z, ⟨d2_0, d2_1, d2_2, d2_3⟩, _⟩ := D2
  have QX6 := (QX.al _).ext E6
  have QY6 := blk_top (b := w5.heap.size) rfl E6
  obtain ⟨qxz, ⟨qx0, qx1, qx2, qx3⟩, _⟩ := QX6
  obtain ⟨qyz, ⟨qy0, qy1, qy2, qy3⟩, _⟩ := QY6
  clear E1 E2 E3 E4 E5 E6 X1 X2 X3 X4 X5 P0_1 P1_1 P2_1 P0_2 P1_2 P2_2 P0_3 P1_3 P2_3 P0_4 P1_4 P2_4 P0_5 P1_5 P2_5 QX P0_6 P1_6 P2_6 d0z d0_0 d0_1 d0_2 d0_3 d1z d1_0 d1_1 d1_2 d1_3 d2z d2_0 d2_1 d2_2 d2_3
  go_wp2_with fail
  refine (cl _ (hN.ext (by ((with_reducible (repeat' (first | assumption | exact Ext.refl _ | apply Ext.alloc | apply Ext.drew | apply Ext.drewN | apply Ext.setCell))); all_goals (first | omega | (simp; done) | (simp; omega)))))).mono ?_
  rintro r w7 ⟨rfl, E7⟩
  have X7 : Ext w w7 := Ext.trans (by ((with_reducible (repeat' (first | assumption | exact Ext.refl _ | apply Ext.alloc | apply Ext.drew | apply Ext.drewN | apply Ext.setCell))); all_goals (first | omega | (simp; done) | (simp; omega)))) E7
  go_wp2_with fail
  go_ret
  exact ⟨ret_bool rfl, X7⟩
set_option maxRecDepth 100000 in
theorem way5c (k0 n0 : Int) (s0 : ByteArray) (e0 k1 n1 : Int) (s1 : ByteArray) (e1 k2 n2 : Int) (s2 : ByteArray) (e2 : Int) (w : World) (hN : Nm w) (pk pn : Int) (ps : ByteArray) (pe : Int) (qk qn : Int) (qs : ByteArray) (qe : Int) (rk rn : Int) (rs : ByteArray) (re : Int) (hp : (pk == 0) = false) (hq : (qk == 0) = false) (hr : (rk == 0) = false) (d0 : ∀ W, Calls Tryd.prog 4 #[.agg #[.int .i64 k0, .int .i64 n0, .string s0, .int .i64 e0]] W fun r w' => r = .returned (.agg #[.int .i64 pk, .int .i64 pn, .string ps, .int .i64 pe]) ∧ Ext W w') (d1 : ∀ W, Calls Tryd.prog 4 #[.agg #[.int .i64 k1, .int .i64 n1, .string s1, .int .i64 e1]] W fun r w' => r = .returned (.agg #[.int .i64 qk, .int .i64 qn, .string qs, .int .i64 qe]) ∧ Ext W w') (d2 : ∀ W, Calls Tryd.prog 4 #[.agg #[.int .i64 k2, .int .i64 n2, .string s2, .int .i64 e2]] W fun r w' => r = .returned (.agg #[.int .i64 rk, .int .i64 rn, .string rs, .int .i64 re]) ∧ Ext W w') (K : Int) (xk xn : Int) (xs : ByteArray) (xe : Int) (yk yn : Int) (ys : ByteArray) (ye : Int) (zk zn : Int) (zs : ByteArray) (ze : Int) (hx : (xk == 4) = false) (hy : (yk == 4) = false) (hz : (zk == 4) = false) (c1 : ∀ W, Nm W → Calls Tryd.prog 6 #[.agg #[.int .i64 k0, .int .i64 n0, .string s0, .int .i64 e0], .agg #[.int .i64 k1, .int .i64 n1, .string s1, .int .i64 e1]] W fun r w' => r = .returned (.tuple #[.int .i64 (-1), .agg #[.int .i64 xk, .int .i64 xn, .string xs, .int .i64 xe]]) ∧ Ext W w') (c2 : ∀ W, Nm W → Calls Tryd.prog 6 #[.agg #[.int .i64 k1, .int .i64 n1, .string s1, .int .i64 e1], .agg #[.int .i64 k2, .int .i64 n2, .string s2, .int .i64 e2]] W fun r w' => r = .returned (.tuple #[.int .i64 (1), .agg #[.int .i64 yk, .int .i64 yn, .string ys, .int .i64 ye]]) ∧ Ext W w') (c3 : ∀ W, Nm W → Calls Tryd.prog 6 #[.agg #[.int .i64 k0, .int .i64 n0, .string s0, .int .i64 e0], .agg #[.int .i64 k2, .int .i64 n2, .string s2, .int .i64 e2]] W fun r w' => r = .returned (.tuple #[.int .i64 (K), .agg #[.int .i64 zk, .int .i64 zn, .string zs, .int .i64 ze]]) ∧ Ext W w') :
    Calls Tryd.prog 3 #[.agg #[.int .i64 k0, .int .i64 n0, .string s0, .int .i64 e0], .agg #[.int .i64 k1, .int .i64 n1, .string s1, .int .i64 e1], .agg #[.int .i64 k2, .int .i64 n2, .string s2, .int .i64 e2]] w fun e w' => e = .returned (.bool true) ∧ Ext w w' := by
  have cl := fun W h => lives_v W h
  have fk := field_k
  go_enter Tryd.func3, Tryd.ntmps3
  go_wp2_with fail
  refine (d0 _).mono ?_
  rintro r w1 ⟨rfl, E1⟩
  have X1 : Ext w w1 := Ext.trans (by ((with_reducible (repeat' (first | assumption | exact Ext.refl _ | apply Ext.alloc | apply Ext.drew | apply Ext.drewN | apply Ext.setCell))); all_goals (first | omega | (simp; done) | (simp; omega)))) E1
  have P0_1 := blk_top (b := w.heap.size) (by simp) ((((Ext.refl _).alloc _).alloc _).trans E1)
  have P1_1 := blk_top (b := w.heap.size + 1) (by simp) (((Ext.refl _).alloc _).trans E1)
  have P2_1 := blk_top (b := w.heap.size + 1 + 1) (by simp) E1
  have D0 := P0_1
  obtain ⟨d0z, ⟨d0_0, d0_1, d0_2, d0_3⟩, _⟩ := D0
  have D1 := P1_1
  obtain ⟨d1z, ⟨d1_0, d1_1, d1_2, d1_3⟩, _⟩ := D1
  have D2 := P2_1
  obtain ⟨d2z, ⟨d2_0, d2_1, d2_2, d2_3⟩, _⟩ := D2
  go_wp2_with fail
  refine (d1 _).mono ?_
  rintro r w2 ⟨rfl, E2⟩
  have X2 : Ext w w2 := Ext.trans (by ((with_reducible (repeat' (first | assumption | exact Ext.refl _ | apply Ext.alloc | apply Ext.drew | apply Ext.drewN | apply Ext.setCell))); all_goals (first | omega | (simp; done) | (simp; omega)))) E2
  have P0_2 := P0_1.ext E2
  have P1_2 := P1_1.ext E2
  have P2_2 := P2_1.ext E2
  have D0 := P0_2
  obtain ⟨d0z, ⟨d0_0, d0_1, d0_2, d0_3⟩, _⟩ := D0
  have D1 := P1_2
  obtain ⟨d1z, ⟨d1_0, d1_1, d1_2, d1_3⟩, _⟩ := D1
  have D2 := P2_2
  obtain ⟨d2z, ⟨d2_0, d2_1, d2_2, d2_3⟩, _⟩ := D2
  go_wp2_with fail
  refine (d2 _).mono ?_
  rintro r w3 ⟨rfl, E3⟩
  have X3 : Ext w w3 := Ext.trans (by ((with_reducible (repeat' (first | assumption | exact Ext.refl _ | apply Ext.alloc | apply Ext.drew | apply Ext.drewN | apply Ext.setCell))); all_goals (first | omega | (simp; done) | (simp; omega)))) E3
  have P0_3 := P0_2.ext E3
  have P1_3 := P1_2.ext E3
  have P2_3 := P2_2.ext E3
  have D0 := P0_3
  obtain ⟨d0z, ⟨d0_0, d0_1, d0_2, d0_3⟩, _⟩ := D0
  have D1 := P1_3
  obtain ⟨d1z, ⟨d1_0, d1_1, d1_2, d1_3⟩, _⟩ := D1
  have D2 := P2_3
  obtain ⟨d2z, ⟨d2_0, d2_1, d2_2, d2_3⟩, _⟩ := D2
  go_wp2_with fail
  refine (c1 _ (hN.ext (by ((with_reducible (repeat' (first | assumption | exact Ext.refl _ | apply Ext.alloc | apply Ext.drew | apply Ext.drewN | apply Ext.setCell))); all_goals (first | omega | (simp; done) | (simp; omega)))))).mono ?_
  rintro r w4 ⟨rfl, E4⟩
  have X4 : Ext w w4 := Ext.trans (by ((with_reducible (repeat' (first | assumption | exact Ext.refl _ | apply Ext.alloc | apply Ext.drew | apply Ext.drewN | apply Ext.setCell))); all_goals (first | omega | (simp; done) | (simp; omega)))) E4
  have P0_4 := P0_3.ext E4
  have P1_4 := P1_3.ext E4
  have P2_4 := P2_3.ext E4
  have D0 := P0_4
  obtain ⟨d0z, ⟨d0_0, d0_1, d0_2, d0_3⟩, _⟩ := D0
  have D1 := P1_4
  obtain ⟨d1z, ⟨d1_0, d1_1, d1_2, d1_3⟩, _⟩ := D1
  have D2 := P2_4
  obtain ⟨d2z, ⟨d2_0, d2_1, d2_2, d2_3⟩, _⟩ := D2
  go_wp2_with fail
  refine (c2 _ (hN.ext (by ((with_reducible (repeat' (first | assumption | exact Ext.refl _ | apply Ext.alloc | apply Ext.drew | apply Ext.drewN | apply Ext.setCell))); all_goals (first | omega | (simp; done) | (simp; omega)))))).mono ?_
  rintro r w5 ⟨rfl, E5⟩
  have X5 : Ext w w5 := Ext.trans (by ((with_reducible (repeat' (first | assumption | exact Ext.refl _ | apply Ext.alloc | apply Ext.drew | apply Ext.drewN | apply Ext.setCell))); all_goals (first | omega | (simp; done) | (simp; omega)))) E5
  have P0_5 := (P0_4.al _).ext E5
  have P1_5 := (P1_4.al _).ext E5
  have P2_5 := (P2_4.al _).ext E5
  have D0 := P0_5
  obtain ⟨d0z, ⟨d0_0, d0_1, d0_2, d0_3⟩, _⟩ := D0
  have D1 := P1_5
  obtain ⟨d1z, ⟨d1_0, d1_1, d1_2, d1_3⟩, _⟩ := D1
  have D2 := P2_5
  obtain ⟨d2z, ⟨d2_0, d2_1, d2_2, d2_3⟩, _⟩ := D2
  have QX := blk_top (b := w4.heap.size) rfl E5
  go_wp2_with fail
  refine (c3 _ (hN.ext (by ((with_reducible (repeat' (first | assumption | exact Ext.refl _ | apply Ext.alloc | apply Ext.drew | apply Ext.drewN | apply Ext.setCell))); all_goals (first | omega | (simp; done) | (simp; omega)))))).mono ?_
  rintro r w6 ⟨rfl, E6⟩
  have X6 : Ext w w6 := Ext.trans (by ((with_reducible (repeat' (first | assumption | exact Ext.refl _ | apply Ext.alloc | apply Ext.drew | apply Ext.drewN | apply Ext.setCell))); all_goals (first | omega | (simp; done) | (simp; omega)))) E6
  have P0_6 := (P0_5.al _).ext E6
  have P1_6 := (P1_5.al _).ext E6
  have P2_6 := (P2_5.al _).ext E6
  have D0 := P0_6
  obtain ⟨d0z, ⟨d0_0, d0_1, d0_2, d0_3⟩, _⟩ := D0
  have D1 := P1_6
  obtain ⟨d1z, ⟨d1_0, d1_1, d1_2, d1_3⟩, _⟩ := D1
  have D2 := P2_6
  obtain ⟨d2z, ⟨d2_0, d2_1, d2_2, d2_3⟩, _⟩ := D2
  have QX6 := (QX.al _).ext E6
  have QY6 := blk_top (b := w5.heap.size) rfl E6
  obtain ⟨qxz, ⟨qx0, qx1, qx2, qx3⟩, _⟩ := QX6
  obtain ⟨qyz, ⟨qy0, qy1, qy2, qy3⟩, _⟩ := QY6
  clear E1 E2 E3 E4 E5 E6 X1 X2 X3 X4 X5 P0_1 P1_1 P2_1 P0_2 P1_2 P2_2 P0_3 P1_3 P2_3 P0_4 P1_4 P2_4 P0_5 P1_5 P2_5 QX P0_6 P1_6 P2_6 d0z d0_0 d0_1 d0_2 d0_3 d1z d1_0 d1_1 d1_2 d1_3 d2z d2_0 d2_1 d2_2 d2_3
  go_wp2_with fail
  refine (cl _ (hN.ext (by ((with_reducible (repeat' (first | assumption | exact Ext.refl _ | apply Ext.alloc | apply Ext.drew | apply Ext.drewN | apply Ext.setCell))); all_goals (first | omega | (simp; done) | (simp; omega)))))).mono ?_
  rintro r w7 ⟨rfl, E7⟩
  have X7 : Ext w w7 := Ext.trans (by ((with_reducible (repeat' (first | assumption | exact Ext.refl _ | apply Ext.alloc | apply Ext.drew | apply Ext.drewN | apply Ext.setCell))); all_goals (first | omega | (simp; done) | (simp; omega)))) E7
  go_wp2_with fail
  go_ret
  exact ⟨ret_bool rfl, X7⟩
set_option maxRecDepth 100000 in
theorem way5d (k0 n0 : Int) (s0 : ByteArray) (e0 k1 n1 : Int) (s1 : ByteArray) (e1 k2 n2 : Int) (s2 : ByteArray) (e2 : Int) (w : World) (hN : Nm w) (pk pn : Int) (ps : ByteArray) (pe : Int) (qk qn : Int) (qs : ByteArray) (qe : Int) (rk rn : Int) (rs : ByteArray) (re : Int) (hp : (pk == 0) = false) (hq : (qk == 0) = false) (hr : (rk == 0) = false) (d0 : ∀ W, Calls Tryd.prog 4 #[.agg #[.int .i64 k0, .int .i64 n0, .string s0, .int .i64 e0]] W fun r w' => r = .returned (.agg #[.int .i64 pk, .int .i64 pn, .string ps, .int .i64 pe]) ∧ Ext W w') (d1 : ∀ W, Calls Tryd.prog 4 #[.agg #[.int .i64 k1, .int .i64 n1, .string s1, .int .i64 e1]] W fun r w' => r = .returned (.agg #[.int .i64 qk, .int .i64 qn, .string qs, .int .i64 qe]) ∧ Ext W w') (d2 : ∀ W, Calls Tryd.prog 4 #[.agg #[.int .i64 k2, .int .i64 n2, .string s2, .int .i64 e2]] W fun r w' => r = .returned (.agg #[.int .i64 rk, .int .i64 rn, .string rs, .int .i64 re]) ∧ Ext W w') (xk xn : Int) (xs : ByteArray) (xe : Int) (yk yn : Int) (ys : ByteArray) (ye : Int) (zk zn : Int) (zs : ByteArray) (ze : Int) (hx : (xk == 4) = false) (hy : (yk == 4) = false) (hz : (zk == 4) = false) (c1 : ∀ W, Nm W → Calls Tryd.prog 6 #[.agg #[.int .i64 k0, .int .i64 n0, .string s0, .int .i64 e0], .agg #[.int .i64 k1, .int .i64 n1, .string s1, .int .i64 e1]] W fun r w' => r = .returned (.tuple #[.int .i64 (0), .agg #[.int .i64 xk, .int .i64 xn, .string xs, .int .i64 xe]]) ∧ Ext W w') (c2 : ∀ W, Nm W → Calls Tryd.prog 6 #[.agg #[.int .i64 k1, .int .i64 n1, .string s1, .int .i64 e1], .agg #[.int .i64 k2, .int .i64 n2, .string s2, .int .i64 e2]] W fun r w' => r = .returned (.tuple #[.int .i64 (0), .agg #[.int .i64 yk, .int .i64 yn, .string ys, .int .i64 ye]]) ∧ Ext W w') (c3 : ∀ W, Nm W → Calls Tryd.prog 6 #[.agg #[.int .i64 k0, .int .i64 n0, .string s0, .int .i64 e0], .agg #[.int .i64 k2, .int .i64 n2, .string s2, .int .i64 e2]] W fun r w' => r = .returned (.tuple #[.int .i64 (0), .agg #[.int .i64 zk, .int .i64 zn, .string zs, .int .i64 ze]]) ∧ Ext W w') :
    Calls Tryd.prog 3 #[.agg #[.int .i64 k0, .int .i64 n0, .string s0, .int .i64 e0], .agg #[.int .i64 k1, .int .i64 n1, .string s1, .int .i64 e1], .agg #[.int .i64 k2, .int .i64 n2, .string s2, .int .i64 e2]] w fun e w' => e = .returned (.bool true) ∧ Ext w w' := by
  have cl := fun W h => lives_v W h
  have fk := field_k
  go_enter Tryd.func3, Tryd.ntmps3
  go_wp2_with fail
  refine (d0 _).mono ?_
  rintro r w1 ⟨rfl, E1⟩
  have X1 : Ext w w1 := Ext.trans (by ((with_reducible (repeat' (first | assumption | exact Ext.refl _ | apply Ext.alloc | apply Ext.drew | apply Ext.drewN | apply Ext.setCell))); all_goals (first | omega | (simp; done) | (simp; omega)))) E1
  have P0_1 := blk_top (b := w.heap.size) (by simp) ((((Ext.refl _).alloc _).alloc _).trans E1)
  have P1_1 := blk_top (b := w.heap.size + 1) (by simp) (((Ext.refl _).alloc _).trans E1)
  have P2_1 := blk_top (b := w.heap.size + 1 + 1) (by simp) E1
  have D0 := P0_1
  obtain ⟨d0z, ⟨d0_0, d0_1, d0_2, d0_3⟩, _⟩ := D0
  have D1 := P1_1
  obtain ⟨d1z, ⟨d1_0, d1_1, d1_2, d1_3⟩, _⟩ := D1
  have D2 := P2_1
  obtain ⟨d2z, ⟨d2_0, d2_1, d2_2, d2_3⟩, _⟩ := D2
  go_wp2_with fail
  refine (d1 _).mono ?_
  rintro r w2 ⟨rfl, E2⟩
  have X2 : Ext w w2 := Ext.trans (by ((with_reducible (repeat' (first | assumption | exact Ext.refl _ | apply Ext.alloc | apply Ext.drew | apply Ext.drewN | apply Ext.setCell))); all_goals (first | omega | (simp; done) | (simp; omega)))) E2
  have P0_2 := P0_1.ext E2
  have P1_2 := P1_1.ext E2
  have P2_2 := P2_1.ext E2
  have D0 := P0_2
  obtain ⟨d0z, ⟨d0_0, d0_1, d0_2, d0_3⟩, _⟩ := D0
  have D1 := P1_2
  obtain ⟨d1z, ⟨d1_0, d1_1, d1_2, d1_3⟩, _⟩ := D1
  have D2 := P2_2
  obtain ⟨d2z, ⟨d2_0, d2_1, d2_2, d2_3⟩, _⟩ := D2
  go_wp2_with fail
  refine (d2 _).mono ?_
  rintro r w3 ⟨rfl, E3⟩
  have X3 : Ext w w3 := Ext.trans (by ((with_reducible (repeat' (first | assumption | exact Ext.refl _ | apply Ext.alloc | apply Ext.drew | apply Ext.drewN | apply Ext.setCell))); all_goals (first | omega | (simp; done) | (simp; omega)))) E3
  have P0_3 := P0_2.ext E3
  have P1_3 := P1_2.ext E3
  have P2_3 := P2_2.ext E3
  have D0 := P0_3
  obtain ⟨d0z, ⟨d0_0, d0_1, d0_2, d0_3⟩, _⟩ := D0
  have D1 := P1_3
  obtain ⟨d1z, ⟨d1_0, d1_1, d1_2, d1_3⟩, _⟩ := D1
  have D2 := P2_3
  obtain ⟨d2z, ⟨d2_0, d2_1, d2_2, d2_3⟩, _⟩ := D2
  go_wp2_with fail
  refine (c1 _ (hN.ext (by ((with_reducible (repeat' (first | assumption | exact Ext.refl _ | apply Ext.alloc | apply Ext.drew | apply Ext.drewN | apply Ext.setCell))); all_goals (first | omega | (simp; done) | (simp; omega)))))).mono ?_
  rintro r w4 ⟨rfl, E4⟩
  have X4 : Ext w w4 := Ext.trans (by ((with_reducible (repeat' (first | assumption | exact Ext.refl _ | apply Ext.alloc | apply Ext.drew | apply Ext.drewN | apply Ext.setCell))); all_goals (first | omega | (simp; done) | (simp; omega)))) E4
  have P0_4 := P0_3.ext E4
  have P1_4 := P1_3.ext E4
  have P2_4 := P2_3.ext E4
  have D0 := P0_4
  obtain ⟨d0z, ⟨d0_0, d0_1, d0_2, d0_3⟩, _⟩ := D0
  have D1 := P1_4
  obtain ⟨d1z, ⟨d1_0, d1_1, d1_2, d1_3⟩, _⟩ := D1
  have D2 := P2_4
  obtain ⟨d2z, ⟨d2_0, d2_1, d2_2, d2_3⟩, _⟩ := D2
  go_wp2_with fail
  refine (c2 _ (hN.ext (by ((with_reducible (repeat' (first | assumption | exact Ext.refl _ | apply Ext.alloc | apply Ext.drew | apply Ext.drewN | apply Ext.setCell))); all_goals (first | omega | (simp; done) | (simp; omega)))))).mono ?_
  rintro r w5 ⟨rfl, E5⟩
  have X5 : Ext w w5 := Ext.trans (by ((with_reducible (repeat' (first | assumption | exact Ext.refl _ | apply Ext.alloc | apply Ext.drew | apply Ext.drewN | apply Ext.setCell))); all_goals (first | omega | (simp; done) | (simp; omega)))) E5
  have P0_5 := (P0_4.al _).ext E5
  have P1_5 := (P1_4.al _).ext E5
  have P2_5 := (P2_4.al _).ext E5
  have D0 := P0_5
  obtain ⟨d0z, ⟨d0_0, d0_1, d0_2, d0_3⟩, _⟩ := D0
  have D1 := P1_5
  obtain ⟨d1z, ⟨d1_0, d1_1, d1_2, d1_3⟩, _⟩ := D1
  have D2 := P2_5
  obtain ⟨d2z, ⟨d2_0, d2_1, d2_2, d2_3⟩, _⟩ := D2
  have QX := blk_top (b := w4.heap.size) rfl E5
  go_wp2_with fail
  refine (c3 _ (hN.ext (by ((with_reducible (repeat' (first | assumption | exact Ext.refl _ | apply Ext.alloc | apply Ext.drew | apply Ext.drewN | apply Ext.setCell))); all_goals (first | omega | (simp; done) | (simp; omega)))))).mono ?_
  rintro r w6 ⟨rfl, E6⟩
  have X6 : Ext w w6 := Ext.trans (by ((with_reducible (repeat' (first | assumption | exact Ext.refl _ | apply Ext.alloc | apply Ext.drew | apply Ext.drewN | apply Ext.setCell))); all_goals (first | omega | (simp; done) | (simp; omega)))) E6
  have P0_6 := (P0_5.al _).ext E6
  have P1_6 := (P1_5.al _).ext E6
  have P2_6 := (P2_5.al _).ext E6
  have D0 := P0_6
  obtain ⟨d0z, ⟨d0_0, d0_1, d0_2, d0_3⟩, _⟩ := D0
  have D1 := P1_6
  obtain ⟨d1z, ⟨d1_0, d1_1, d1_2, d1_3⟩, _⟩ := D1
  have D2 := P2_6
  obtain ⟨d2z, ⟨d2_0, d2_1, d2_2, d2_3⟩, _⟩ := D2
  have QX6 := (QX.al _).ext E6
  have QY6 := blk_top (b := w5.heap.size) rfl E6
  obtain ⟨qxz, ⟨qx0, qx1, qx2, qx3⟩, _⟩ := QX6
  obtain ⟨qyz, ⟨qy0, qy1, qy2, qy3⟩, _⟩ := QY6
  clear E1 E2 E3 E4 E5 E6 X1 X2 X3 X4 X5 P0_1 P1_1 P2_1 P0_2 P1_2 P2_2 P0_3 P1_3 P2_3 P0_4 P1_4 P2_4 P0_5 P1_5 P2_5 QX P0_6 P1_6 P2_6 d0z d0_0 d0_1 d0_2 d0_3 d1z d1_0 d1_1 d1_2 d1_3 d2z d2_0 d2_1 d2_2 d2_3
  go_wp2_with fail
  refine (cl _ (hN.ext (by ((with_reducible (repeat' (first | assumption | exact Ext.refl _ | apply Ext.alloc | apply Ext.drew | apply Ext.drewN | apply Ext.setCell))); all_goals (first | omega | (simp; done) | (simp; omega)))))).mono ?_
  rintro r w7 ⟨rfl, E7⟩
  have X7 : Ext w w7 := Ext.trans (by ((with_reducible (repeat' (first | assumption | exact Ext.refl _ | apply Ext.alloc | apply Ext.drew | apply Ext.drewN | apply Ext.setCell))); all_goals (first | omega | (simp; done) | (simp; omega)))) E7
  go_wp2_with fail
  go_ret
  exact ⟨ret_bool rfl, X7⟩
set_option maxRecDepth 100000 in
theorem way5e (k0 n0 : Int) (s0 : ByteArray) (e0 k1 n1 : Int) (s1 : ByteArray) (e1 k2 n2 : Int) (s2 : ByteArray) (e2 : Int) (w : World) (hN : Nm w) (pk pn : Int) (ps : ByteArray) (pe : Int) (qk qn : Int) (qs : ByteArray) (qe : Int) (rk rn : Int) (rs : ByteArray) (re : Int) (hp : (pk == 0) = false) (hq : (qk == 0) = false) (hr : (rk == 0) = false) (d0 : ∀ W, Calls Tryd.prog 4 #[.agg #[.int .i64 k0, .int .i64 n0, .string s0, .int .i64 e0]] W fun r w' => r = .returned (.agg #[.int .i64 pk, .int .i64 pn, .string ps, .int .i64 pe]) ∧ Ext W w') (d1 : ∀ W, Calls Tryd.prog 4 #[.agg #[.int .i64 k1, .int .i64 n1, .string s1, .int .i64 e1]] W fun r w' => r = .returned (.agg #[.int .i64 qk, .int .i64 qn, .string qs, .int .i64 qe]) ∧ Ext W w') (d2 : ∀ W, Calls Tryd.prog 4 #[.agg #[.int .i64 k2, .int .i64 n2, .string s2, .int .i64 e2]] W fun r w' => r = .returned (.agg #[.int .i64 rk, .int .i64 rn, .string rs, .int .i64 re]) ∧ Ext W w') (xk xn : Int) (xs : ByteArray) (xe : Int) (yk yn : Int) (ys : ByteArray) (ye : Int) (zk zn : Int) (zs : ByteArray) (ze : Int) (hx : (xk == 4) = false) (hy : (yk == 4) = false) (hz : (zk == 4) = false) (c1 : ∀ W, Nm W → Calls Tryd.prog 6 #[.agg #[.int .i64 k0, .int .i64 n0, .string s0, .int .i64 e0], .agg #[.int .i64 k1, .int .i64 n1, .string s1, .int .i64 e1]] W fun r w' => r = .returned (.tuple #[.int .i64 (0), .agg #[.int .i64 xk, .int .i64 xn, .string xs, .int .i64 xe]]) ∧ Ext W w') (c2 : ∀ W, Nm W → Calls Tryd.prog 6 #[.agg #[.int .i64 k1, .int .i64 n1, .string s1, .int .i64 e1], .agg #[.int .i64 k2, .int .i64 n2, .string s2, .int .i64 e2]] W fun r w' => r = .returned (.tuple #[.int .i64 (-1), .agg #[.int .i64 yk, .int .i64 yn, .string ys, .int .i64 ye]]) ∧ Ext W w') (c3 : ∀ W, Nm W → Calls Tryd.prog 6 #[.agg #[.int .i64 k0, .int .i64 n0, .string s0, .int .i64 e0], .agg #[.int .i64 k2, .int .i64 n2, .string s2, .int .i64 e2]] W fun r w' => r = .returned (.tuple #[.int .i64 (-1), .agg #[.int .i64 zk, .int .i64 zn, .string zs, .int .i64 ze]]) ∧ Ext W w') :
    Calls Tryd.prog 3 #[.agg #[.int .i64 k0, .int .i64 n0, .string s0, .int .i64 e0], .agg #[.int .i64 k1, .int .i64 n1, .string s1, .int .i64 e1], .agg #[.int .i64 k2, .int .i64 n2, .string s2, .int .i64 e2]] w fun e w' => e = .returned (.bool true) ∧ Ext w w' := by
  have cl := fun W h => lives_v W h
  have fk := field_k
  go_enter Tryd.func3, Tryd.ntmps3
  go_wp2_with fail
  refine (d0 _).mono ?_
  rintro r w1 ⟨rfl, E1⟩
  have X1 : Ext w w1 := Ext.trans (by ((with_reducible (repeat' (first | assumption | exact Ext.refl _ | apply Ext.alloc | apply Ext.drew | apply Ext.drewN | apply Ext.setCell))); all_goals (first | omega | (simp; done) | (simp; omega)))) E1
  have P0_1 := blk_top (b := w.heap.size) (by simp) ((((Ext.refl _).alloc _).alloc _).trans E1)
  have P1_1 := blk_top (b := w.heap.size + 1) (by simp) (((Ext.refl _).alloc _).trans E1)
  have P2_1 := blk_top (b := w.heap.size + 1 + 1) (by simp) E1
  have D0 := P0_1
  obtain ⟨d0z, ⟨d0_0, d0_1, d0_2, d0_3⟩, _⟩ := D0
  have D1 := P1_1
  obtain ⟨d1z, ⟨d1_0, d1_1, d1_2, d1_3⟩, _⟩ := D1
  have D2 := P2_1
  obtain ⟨d2z, ⟨d2_0, d2_1, d2_2, d2_3⟩, _⟩ := D2
  go_wp2_with fail
  refine (d1 _).mono ?_
  rintro r w2 ⟨rfl, E2⟩
  have X2 : Ext w w2 := Ext.trans (by ((with_reducible (repeat' (first | assumption | exact Ext.refl _ | apply Ext.alloc | apply Ext.drew | apply Ext.drewN | apply Ext.setCell))); all_goals (first | omega | (simp; done) | (simp; omega)))) E2
  have P0_2 := P0_1.ext E2
  have P1_2 := P1_1.ext E2
  have P2_2 := P2_1.ext E2
  have D0 := P0_2
  obtain ⟨d0z, ⟨d0_0, d0_1, d0_2, d0_3⟩, _⟩ := D0
  have D1 := P1_2
  obtain ⟨d1z, ⟨d1_0, d1_1, d1_2, d1_3⟩, _⟩ := D1
  have D2 := P2_2
  obtain ⟨d2z, ⟨d2_0, d2_1, d2_2, d2_3⟩, _⟩ := D2
  go_wp2_with fail
  refine (d2 _).mono ?_
  rintro r w3 ⟨rfl, E3⟩
  have X3 : Ext w w3 := Ext.trans (by ((with_reducible (repeat' (first | assumption | exact Ext.refl _ | apply Ext.alloc | apply Ext.drew | apply Ext.drewN | apply Ext.setCell))); all_goals (first | omega | (simp; done) | (simp; omega)))) E3
  have P0_3 := P0_2.ext E3
  have P1_3 := P1_2.ext E3
  have P2_3 := P2_2.ext E3
  have D0 := P0_3
  obtain ⟨d0z, ⟨d0_0, d0_1, d0_2, d0_3⟩, _⟩ := D0
  have D1 := P1_3
  obtain ⟨d1z, ⟨d1_0, d1_1, d1_2, d1_3⟩, _⟩ := D1
  have D2 := P2_3
  obtain ⟨d2z, ⟨d2_0, d2_1, d2_2, d2_3⟩, _⟩ := D2
  go_wp2_with fail
  refine (c1 _ (hN.ext (by ((with_reducible (repeat' (first | assumption | exact Ext.refl _ | apply Ext.alloc | apply Ext.drew | apply Ext.drewN | apply Ext.setCell))); all_goals (first | omega | (simp; done) | (simp; omega)))))).mono ?_
  rintro r w4 ⟨rfl, E4⟩
  have X4 : Ext w w4 := Ext.trans (by ((with_reducible (repeat' (first | assumption | exact Ext.refl _ | apply Ext.alloc | apply Ext.drew | apply Ext.drewN | apply Ext.setCell))); all_goals (first | omega | (simp; done) | (simp; omega)))) E4
  have P0_4 := P0_3.ext E4
  have P1_4 := P1_3.ext E4
  have P2_4 := P2_3.ext E4
  have D0 := P0_4
  obtain ⟨d0z, ⟨d0_0, d0_1, d0_2, d0_3⟩, _⟩ := D0
  have D1 := P1_4
  obtain ⟨d1z, ⟨d1_0, d1_1, d1_2, d1_3⟩, _⟩ := D1
  have D2 := P2_4
  obtain ⟨d2z, ⟨d2_0, d2_1, d2_2, d2_3⟩, _⟩ := D2
  go_wp2_with fail
  refine (c2 _ (hN.ext (by ((with_reducible (repeat' (first | assumption | exact Ext.refl _ | apply Ext.alloc | apply Ext.drew | apply Ext.drewN | apply Ext.setCell))); all_goals (first | omega | (simp; done) | (simp; omega)))))).mono ?_
  rintro r w5 ⟨rfl, E5⟩
  have X5 : Ext w w5 := Ext.trans (by ((with_reducible (repeat' (first | assumption | exact Ext.refl _ | apply Ext.alloc | apply Ext.drew | apply Ext.drewN | apply Ext.setCell))); all_goals (first | omega | (simp; done) | (simp; omega)))) E5
  have P0_5 := (P0_4.al _).ext E5
  have P1_5 := (P1_4.al _).ext E5
  have P2_5 := (P2_4.al _).ext E5
  have D0 := P0_5
  obtain ⟨d0z, ⟨d0_0, d0_1, d0_2, d0_3⟩, _⟩ := D0
  have D1 := P1_5
  obtain ⟨d1z, ⟨d1_0, d1_1, d1_2, d1_3⟩, _⟩ := D1
  have D2 := P2_5
  obtain ⟨d2z, ⟨d2_0, d2_1, d2_2, d2_3⟩, _⟩ := D2
  have QX := blk_top (b := w4.heap.size) rfl E5
  go_wp2_with fail
  refine (c3 _ (hN.ext (by ((with_reducible (repeat' (first | assumption | exact Ext.refl _ | apply Ext.alloc | apply Ext.drew | apply Ext.drewN | apply Ext.setCell))); all_goals (first | omega | (simp; done) | (simp; omega)))))).mono ?_
  rintro r w6 ⟨rfl, E6⟩
  have X6 : Ext w w6 := Ext.trans (by ((with_reducible (repeat' (first | assumption | exact Ext.refl _ | apply Ext.alloc | apply Ext.drew | apply Ext.drewN | apply Ext.setCell))); all_goals (first | omega | (simp; done) | (simp; omega)))) E6
  have P0_6 := (P0_5.al _).ext E6
  have P1_6 := (P1_5.al _).ext E6
  have P2_6 := (P2_5.al _).ext E6
  have D0 := P0_6
  obtain ⟨d0z, ⟨d0_0, d0_1, d0_2, d0_3⟩, _⟩ := D0
  have D1 := P1_6
  obtain ⟨d1z, ⟨d1_0, d1_1, d1_2, d1_3⟩, _⟩ := D1
  have D2 := P2_6
  obtain ⟨d2z, ⟨d2_0, d2_1, d2_2, d2_3⟩, _⟩ := D2
  have QX6 := (QX.al _).ext E6
  have QY6 := blk_top (b := w5.heap.size) rfl E6
  obtain ⟨qxz, ⟨qx0, qx1, qx2, qx3⟩, _⟩ := QX6
  obtain ⟨qyz, ⟨qy0, qy1, qy2, qy3⟩, _⟩ := QY6
  clear E1 E2 E3 E4 E5 E6 X1 X2 X3 X4 X5 P0_1 P1_1 P2_1 P0_2 P1_2 P2_2 P0_3 P1_3 P2_3 P0_4 P1_4 P2_4 P0_5 P1_5 P2_5 QX P0_6 P1_6 P2_6 d0z d0_0 d0_1 d0_2 d0_3 d1z d1_0 d1_1 d1_2 d1_3 d2z d2_0 d2_1 d2_2 d2_3
  go_wp2_with fail
  refine (cl _ (hN.ext (by ((with_reducible (repeat' (first | assumption | exact Ext.refl _ | apply Ext.alloc | apply Ext.drew | apply Ext.drewN | apply Ext.setCell))); all_goals (first | omega | (simp; done) | (simp; omega)))))).mono ?_
  rintro r w7 ⟨rfl, E7⟩
  have X7 : Ext w w7 := Ext.trans (by ((with_reducible (repeat' (first | assumption | exact Ext.refl _ | apply Ext.alloc | apply Ext.drew | apply Ext.drewN | apply Ext.setCell))); all_goals (first | omega | (simp; done) | (simp; omega)))) E7
  go_wp2_with fail
  go_ret
  exact ⟨ret_bool rfl, X7⟩
set_option maxRecDepth 100000 in
theorem way5f (k0 n0 : Int) (s0 : ByteArray) (e0 k1 n1 : Int) (s1 : ByteArray) (e1 k2 n2 : Int) (s2 : ByteArray) (e2 : Int) (w : World) (hN : Nm w) (pk pn : Int) (ps : ByteArray) (pe : Int) (qk qn : Int) (qs : ByteArray) (qe : Int) (rk rn : Int) (rs : ByteArray) (re : Int) (hp : (pk == 0) = false) (hq : (qk == 0) = false) (hr : (rk == 0) = false) (d0 : ∀ W, Calls Tryd.prog 4 #[.agg #[.int .i64 k0, .int .i64 n0, .string s0, .int .i64 e0]] W fun r w' => r = .returned (.agg #[.int .i64 pk, .int .i64 pn, .string ps, .int .i64 pe]) ∧ Ext W w') (d1 : ∀ W, Calls Tryd.prog 4 #[.agg #[.int .i64 k1, .int .i64 n1, .string s1, .int .i64 e1]] W fun r w' => r = .returned (.agg #[.int .i64 qk, .int .i64 qn, .string qs, .int .i64 qe]) ∧ Ext W w') (d2 : ∀ W, Calls Tryd.prog 4 #[.agg #[.int .i64 k2, .int .i64 n2, .string s2, .int .i64 e2]] W fun r w' => r = .returned (.agg #[.int .i64 rk, .int .i64 rn, .string rs, .int .i64 re]) ∧ Ext W w') (xk xn : Int) (xs : ByteArray) (xe : Int) (yk yn : Int) (ys : ByteArray) (ye : Int) (zk zn : Int) (zs : ByteArray) (ze : Int) (hx : (xk == 4) = false) (hy : (yk == 4) = false) (hz : (zk == 4) = false) (c1 : ∀ W, Nm W → Calls Tryd.prog 6 #[.agg #[.int .i64 k0, .int .i64 n0, .string s0, .int .i64 e0], .agg #[.int .i64 k1, .int .i64 n1, .string s1, .int .i64 e1]] W fun r w' => r = .returned (.tuple #[.int .i64 (-1), .agg #[.int .i64 xk, .int .i64 xn, .string xs, .int .i64 xe]]) ∧ Ext W w') (c2 : ∀ W, Nm W → Calls Tryd.prog 6 #[.agg #[.int .i64 k1, .int .i64 n1, .string s1, .int .i64 e1], .agg #[.int .i64 k2, .int .i64 n2, .string s2, .int .i64 e2]] W fun r w' => r = .returned (.tuple #[.int .i64 (0), .agg #[.int .i64 yk, .int .i64 yn, .string ys, .int .i64 ye]]) ∧ Ext W w') (c3 : ∀ W, Nm W → Calls Tryd.prog 6 #[.agg #[.int .i64 k0, .int .i64 n0, .string s0, .int .i64 e0], .agg #[.int .i64 k2, .int .i64 n2, .string s2, .int .i64 e2]] W fun r w' => r = .returned (.tuple #[.int .i64 (-1), .agg #[.int .i64 zk, .int .i64 zn, .string zs, .int .i64 ze]]) ∧ Ext W w') :
    Calls Tryd.prog 3 #[.agg #[.int .i64 k0, .int .i64 n0, .string s0, .int .i64 e0], .agg #[.int .i64 k1, .int .i64 n1, .string s1, .int .i64 e1], .agg #[.int .i64 k2, .int .i64 n2, .string s2, .int .i64 e2]] w fun e w' => e = .returned (.bool true) ∧ Ext w w' := by
  have cl := fun W h => lives_v W h
  have fk := field_k
  go_enter Tryd.func3, Tryd.ntmps3
  go_wp2_with fail
  refine (d0 _).mono ?_
  rintro r w1 ⟨rfl, E1⟩
  have X1 : Ext w w1 := Ext.trans (by ((with_reducible (repeat' (first | assumption | exact Ext.refl _ | apply Ext.alloc | apply Ext.drew | apply Ext.drewN | apply Ext.setCell))); all_goals (first | omega | (simp; done) | (simp; omega)))) E1
  have P0_1 := blk_top (b := w.heap.size) (by simp) ((((Ext.refl _).alloc _).alloc _).trans E1)
  have P1_1 := blk_top (b := w.heap.size + 1) (by simp) (((Ext.refl _).alloc _).trans E1)
  have P2_1 := blk_top (b := w.heap.size + 1 + 1) (by simp) E1
  have D0 := P0_1
  obtain ⟨d0z, ⟨d0_0, d0_1, d0_2, d0_3⟩, _⟩ := D0
  have D1 := P1_1
  obtain ⟨d1z, ⟨d1_0, d1_1, d1_2, d1_3⟩, _⟩ := D1
  have D2 := P2_1
  obtain ⟨d2z, ⟨d2_0, d2_1, d2_2, d2_3⟩, _⟩ := D2
  go_wp2_with fail
  refine (d1 _).mono ?_
  rintro r w2 ⟨rfl, E2⟩
  have X2 : Ext w w2 := Ext.trans (by ((with_reducible (repeat' (first | assumption | exact Ext.refl _ | apply Ext.alloc | apply Ext.drew | apply Ext.drewN | apply Ext.setCell))); all_goals (first | omega | (simp; done) | (simp; omega)))) E2
  have P0_2 := P0_1.ext E2
  have P1_2 := P1_1.ext E2
  have P2_2 := P2_1.ext E2
  have D0 := P0_2
  obtain ⟨d0z, ⟨d0_0, d0_1, d0_2, d0_3⟩, _⟩ := D0
  have D1 := P1_2
  obtain ⟨d1z, ⟨d1_0, d1_1, d1_2, d1_3⟩, _⟩ := D1
  have D2 := P2_2
  obtain ⟨d2z, ⟨d2_0, d2_1, d2_2, d2_3⟩, _⟩ := D2
  go_wp2_with fail
  refine (d2 _).mono ?_
  rintro r w3 ⟨rfl, E3⟩
  have X3 : Ext w w3 := Ext.trans (by ((with_reducible (repeat' (first | assumption | exact Ext.refl _ | apply Ext.alloc | apply Ext.drew | apply Ext.drewN | apply Ext.setCell))); all_goals (first | omega | (simp; done) | (simp; omega)))) E3
  have P0_3 := P0_2.ext E3
  have P1_3 := P1_2.ext E3
  have P2_3 := P2_2.ext E3
  have D0 := P0_3
  obtain ⟨d0z, ⟨d0_0, d0_1, d0_2, d0_3⟩, _⟩ := D0
  have D1 := P1_3
  obtain ⟨d1z, ⟨d1_0, d1_1, d1_2, d1_3⟩, _⟩ := D1
  have D2 := P2_3
  obtain ⟨d2z, ⟨d2_0, d2_1, d2_2, d2_3⟩, _⟩ := D2
  go_wp2_with fail
  refine (c1 _ (hN.ext (by ((with_reducible (repeat' (first | assumption | exact Ext.refl _ | apply Ext.alloc | apply Ext.drew | apply Ext.drewN | apply Ext.setCell))); all_goals (first | omega | (simp; done) | (simp; omega)))))).mono ?_
  rintro r w4 ⟨rfl, E4⟩
  have X4 : Ext w w4 := Ext.trans (by ((with_reducible (repeat' (first | assumption | exact Ext.refl _ | apply Ext.alloc | apply Ext.drew | apply Ext.drewN | apply Ext.setCell))); all_goals (first | omega | (simp; done) | (simp; omega)))) E4
  have P0_4 := P0_3.ext E4
  have P1_4 := P1_3.ext E4
  have P2_4 := P2_3.ext E4
  have D0 := P0_4
  obtain ⟨d0z, ⟨d0_0, d0_1, d0_2, d0_3⟩, _⟩ := D0
  have D1 := P1_4
  obtain ⟨d1z, ⟨d1_0, d1_1, d1_2, d1_3⟩, _⟩ := D1
  have D2 := P2_4
  obtain ⟨d2z, ⟨d2_0, d2_1, d2_2, d2_3⟩, _⟩ := D2
  go_wp2_with fail
  refine (c2 _ (hN.ext (by ((with_reducible (repeat' (first | assumption | exact Ext.refl _ | apply Ext.alloc | apply Ext.drew | apply Ext.drewN | apply Ext.setCell))); all_goals (first | omega | (simp; done) | (simp; omega)))))).mono ?_
  rintro r w5 ⟨rfl, E5⟩
  have X5 : Ext w w5 := Ext.trans (by ((with_reducible (repeat' (first | assumption | exact Ext.refl _ | apply Ext.alloc | apply Ext.drew | apply Ext.drewN | apply Ext.setCell))); all_goals (first | omega | (simp; done) | (simp; omega)))) E5
  have P0_5 := (P0_4.al _).ext E5
  have P1_5 := (P1_4.al _).ext E5
  have P2_5 := (P2_4.al _).ext E5
  have D0 := P0_5
  obtain ⟨d0z, ⟨d0_0, d0_1, d0_2, d0_3⟩, _⟩ := D0
  have D1 := P1_5
  obtain ⟨d1z, ⟨d1_0, d1_1, d1_2, d1_3⟩, _⟩ := D1
  have D2 := P2_5
  obtain ⟨d2z, ⟨d2_0, d2_1, d2_2, d2_3⟩, _⟩ := D2
  have QX := blk_top (b := w4.heap.size) rfl E5
  go_wp2_with fail
  refine (c3 _ (hN.ext (by ((with_reducible (repeat' (first | assumption | exact Ext.refl _ | apply Ext.alloc | apply Ext.drew | apply Ext.drewN | apply Ext.setCell))); all_goals (first | omega | (simp; done) | (simp; omega)))))).mono ?_
  rintro r w6 ⟨rfl, E6⟩
  have X6 : Ext w w6 := Ext.trans (by ((with_reducible (repeat' (first | assumption | exact Ext.refl _ | apply Ext.alloc | apply Ext.drew | apply Ext.drewN | apply Ext.setCell))); all_goals (first | omega | (simp; done) | (simp; omega)))) E6
  have P0_6 := (P0_5.al _).ext E6
  have P1_6 := (P1_5.al _).ext E6
  have P2_6 := (P2_5.al _).ext E6
  have D0 := P0_6
  obtain ⟨d0z, ⟨d0_0, d0_1, d0_2, d0_3⟩, _⟩ := D0
  have D1 := P1_6
  obtain ⟨d1z, ⟨d1_0, d1_1, d1_2, d1_3⟩, _⟩ := D1
  have D2 := P2_6
  obtain ⟨d2z, ⟨d2_0, d2_1, d2_2, d2_3⟩, _⟩ := D2
  have QX6 := (QX.al _).ext E6
  have QY6 := blk_top (b := w5.heap.size) rfl E6
  obtain ⟨qxz, ⟨qx0, qx1, qx2, qx3⟩, _⟩ := QX6
  obtain ⟨qyz, ⟨qy0, qy1, qy2, qy3⟩, _⟩ := QY6
  clear E1 E2 E3 E4 E5 E6 X1 X2 X3 X4 X5 P0_1 P1_1 P2_1 P0_2 P1_2 P2_2 P0_3 P1_3 P2_3 P0_4 P1_4 P2_4 P0_5 P1_5 P2_5 QX P0_6 P1_6 P2_6 d0z d0_0 d0_1 d0_2 d0_3 d1z d1_0 d1_1 d1_2 d1_3 d2z d2_0 d2_1 d2_2 d2_3
  go_wp2_with fail
  refine (cl _ (hN.ext (by ((with_reducible (repeat' (first | assumption | exact Ext.refl _ | apply Ext.alloc | apply Ext.drew | apply Ext.drewN | apply Ext.setCell))); all_goals (first | omega | (simp; done) | (simp; omega)))))).mono ?_
  rintro r w7 ⟨rfl, E7⟩
  have X7 : Ext w w7 := Ext.trans (by ((with_reducible (repeat' (first | assumption | exact Ext.refl _ | apply Ext.alloc | apply Ext.drew | apply Ext.drewN | apply Ext.setCell))); all_goals (first | omega | (simp; done) | (simp; omega)))) E7
  go_wp2_with fail
  go_ret
  exact ⟨ret_bool rfl, X7⟩
set_option maxRecDepth 100000 in
theorem way5g (k0 n0 : Int) (s0 : ByteArray) (e0 k1 n1 : Int) (s1 : ByteArray) (e1 k2 n2 : Int) (s2 : ByteArray) (e2 : Int) (w : World) (hN : Nm w) (pk pn : Int) (ps : ByteArray) (pe : Int) (qk qn : Int) (qs : ByteArray) (qe : Int) (rk rn : Int) (rs : ByteArray) (re : Int) (hp : (pk == 0) = false) (hq : (qk == 0) = false) (hr : (rk == 0) = false) (d0 : ∀ W, Calls Tryd.prog 4 #[.agg #[.int .i64 k0, .int .i64 n0, .string s0, .int .i64 e0]] W fun r w' => r = .returned (.agg #[.int .i64 pk, .int .i64 pn, .string ps, .int .i64 pe]) ∧ Ext W w') (d1 : ∀ W, Calls Tryd.prog 4 #[.agg #[.int .i64 k1, .int .i64 n1, .string s1, .int .i64 e1]] W fun r w' => r = .returned (.agg #[.int .i64 qk, .int .i64 qn, .string qs, .int .i64 qe]) ∧ Ext W w') (d2 : ∀ W, Calls Tryd.prog 4 #[.agg #[.int .i64 k2, .int .i64 n2, .string s2, .int .i64 e2]] W fun r w' => r = .returned (.agg #[.int .i64 rk, .int .i64 rn, .string rs, .int .i64 re]) ∧ Ext W w') (xk xn : Int) (xs : ByteArray) (xe : Int) (yk yn : Int) (ys : ByteArray) (ye : Int) (zk zn : Int) (zs : ByteArray) (ze : Int) (hx : (xk == 4) = false) (hy : (yk == 4) = false) (hz : (zk == 4) = false) (c1 : ∀ W, Nm W → Calls Tryd.prog 6 #[.agg #[.int .i64 k0, .int .i64 n0, .string s0, .int .i64 e0], .agg #[.int .i64 k1, .int .i64 n1, .string s1, .int .i64 e1]] W fun r w' => r = .returned (.tuple #[.int .i64 (-1), .agg #[.int .i64 xk, .int .i64 xn, .string xs, .int .i64 xe]]) ∧ Ext W w') (c2 : ∀ W, Nm W → Calls Tryd.prog 6 #[.agg #[.int .i64 k1, .int .i64 n1, .string s1, .int .i64 e1], .agg #[.int .i64 k2, .int .i64 n2, .string s2, .int .i64 e2]] W fun r w' => r = .returned (.tuple #[.int .i64 (-1), .agg #[.int .i64 yk, .int .i64 yn, .string ys, .int .i64 ye]]) ∧ Ext W w') (c3 : ∀ W, Nm W → Calls Tryd.prog 6 #[.agg #[.int .i64 k0, .int .i64 n0, .string s0, .int .i64 e0], .agg #[.int .i64 k2, .int .i64 n2, .string s2, .int .i64 e2]] W fun r w' => r = .returned (.tuple #[.int .i64 (-1), .agg #[.int .i64 zk, .int .i64 zn, .string zs, .int .i64 ze]]) ∧ Ext W w') :
    Calls Tryd.prog 3 #[.agg #[.int .i64 k0, .int .i64 n0, .string s0, .int .i64 e0], .agg #[.int .i64 k1, .int .i64 n1, .string s1, .int .i64 e1], .agg #[.int .i64 k2, .int .i64 n2, .string s2, .int .i64 e2]] w fun e w' => e = .returned (.bool true) ∧ Ext w w' := by
  have cl := fun W h => lives_v W h
  have fk := field_k
  go_enter Tryd.func3, Tryd.ntmps3
  go_wp2_with fail
  refine (d0 _).mono ?_
  rintro r w1 ⟨rfl, E1⟩
  have X1 : Ext w w1 := Ext.trans (by ((with_reducible (repeat' (first | assumption | exact Ext.refl _ | apply Ext.alloc | apply Ext.drew | apply Ext.drewN | apply Ext.setCell))); all_goals (first | omega | (simp; done) | (simp; omega)))) E1
  have P0_1 := blk_top (b := w.heap.size) (by simp) ((((Ext.refl _).alloc _).alloc _).trans E1)
  have P1_1 := blk_top (b := w.heap.size + 1) (by simp) (((Ext.refl _).alloc _).trans E1)
  have P2_1 := blk_top (b := w.heap.size + 1 + 1) (by simp) E1
  have D0 := P0_1
  obtain ⟨d0z, ⟨d0_0, d0_1, d0_2, d0_3⟩, _⟩ := D0
  have D1 := P1_1
  obtain ⟨d1z, ⟨d1_0, d1_1, d1_2, d1_3⟩, _⟩ := D1
  have D2 := P2_1
  obtain ⟨d2z, ⟨d2_0, d2_1, d2_2, d2_3⟩, _⟩ := D2
  go_wp2_with fail
  refine (d1 _).mono ?_
  rintro r w2 ⟨rfl, E2⟩
  have X2 : Ext w w2 := Ext.trans (by ((with_reducible (repeat' (first | assumption | exact Ext.refl _ | apply Ext.alloc | apply Ext.drew | apply Ext.drewN | apply Ext.setCell))); all_goals (first | omega | (simp; done) | (simp; omega)))) E2
  have P0_2 := P0_1.ext E2
  have P1_2 := P1_1.ext E2
  have P2_2 := P2_1.ext E2
  have D0 := P0_2
  obtain ⟨d0z, ⟨d0_0, d0_1, d0_2, d0_3⟩, _⟩ := D0
  have D1 := P1_2
  obtain ⟨d1z, ⟨d1_0, d1_1, d1_2, d1_3⟩, _⟩ := D1
  have D2 := P2_2
  obtain ⟨d2z, ⟨d2_0, d2_1, d2_2, d2_3⟩, _⟩ := D2
  go_wp2_with fail
  refine (d2 _).mono ?_
  rintro r w3 ⟨rfl, E3⟩
  have X3 : Ext w w3 := Ext.trans (by ((with_reducible (repeat' (first | assumption | exact Ext.refl _ | apply Ext.alloc | apply Ext.drew | apply Ext.drewN | apply Ext.setCell))); all_goals (first | omega | (simp; done) | (simp; omega)))) E3
  have P0_3 := P0_2.ext E3
  have P1_3 := P1_2.ext E3
  have P2_3 := P2_2.ext E3
  have D0 := P0_3
  obtain ⟨d0z, ⟨d0_0, d0_1, d0_2, d0_3⟩, _⟩ := D0
  have D1 := P1_3
  obtain ⟨d1z, ⟨d1_0, d1_1, d1_2, d1_3⟩, _⟩ := D1
  have D2 := P2_3
  obtain ⟨d2z, ⟨d2_0, d2_1, d2_2, d2_3⟩, _⟩ := D2
  go_wp2_with fail
  refine (c1 _ (hN.ext (by ((with_reducible (repeat' (first | assumption | exact Ext.refl _ | apply Ext.alloc | apply Ext.drew | apply Ext.drewN | apply Ext.setCell))); all_goals (first | omega | (simp; done) | (simp; omega)))))).mono ?_
  rintro r w4 ⟨rfl, E4⟩
  have X4 : Ext w w4 := Ext.trans (by ((with_reducible (repeat' (first | assumption | exact Ext.refl _ | apply Ext.alloc | apply Ext.drew | apply Ext.drewN | apply Ext.setCell))); all_goals (first | omega | (simp; done) | (simp; omega)))) E4
  have P0_4 := P0_3.ext E4
  have P1_4 := P1_3.ext E4
  have P2_4 := P2_3.ext E4
  have D0 := P0_4
  obtain ⟨d0z, ⟨d0_0, d0_1, d0_2, d0_3⟩, _⟩ := D0
  have D1 := P1_4
  obtain ⟨d1z, ⟨d1_0, d1_1, d1_2, d1_3⟩, _⟩ := D1
  have D2 := P2_4
  obtain ⟨d2z, ⟨d2_0, d2_1, d2_2, d2_3⟩, _⟩ := D2
  go_wp2_with fail
  refine (c2 _ (hN.ext (by ((with_reducible (repeat' (first | assumption | exact Ext.refl _ | apply Ext.alloc | apply Ext.drew | apply Ext.drewN | apply Ext.setCell))); all_goals (first | omega | (simp; done) | (simp; omega)))))).mono ?_
  rintro r w5 ⟨rfl, E5⟩
  have X5 : Ext w w5 := Ext.trans (by ((with_reducible (repeat' (first | assumption | exact Ext.refl _ | apply Ext.alloc | apply Ext.drew | apply Ext.drewN | apply Ext.setCell))); all_goals (first | omega | (simp; done) | (simp; omega)))) E5
  have P0_5 := (P0_4.al _).ext E5
  have P1_5 := (P1_4.al _).ext E5
  have P2_5 := (P2_4.al _).ext E5
  have D0 := P0_5
  obtain ⟨d0z, ⟨d0_0, d0_1, d0_2, d0_3⟩, _⟩ := D0
  have D1 := P1_5
  obtain ⟨d1z, ⟨d1_0, d1_1, d1_2, d1_3⟩, _⟩ := D1
  have D2 := P2_5
  obtain ⟨d2z, ⟨d2_0, d2_1, d2_2, d2_3⟩, _⟩ := D2
  have QX := blk_top (b := w4.heap.size) rfl E5
  go_wp2_with fail
  refine (c3 _ (hN.ext (by ((with_reducible (repeat' (first | assumption | exact Ext.refl _ | apply Ext.alloc | apply Ext.drew | apply Ext.drewN | apply Ext.setCell))); all_goals (first | omega | (simp; done) | (simp; omega)))))).mono ?_
  rintro r w6 ⟨rfl, E6⟩
  have X6 : Ext w w6 := Ext.trans (by ((with_reducible (repeat' (first | assumption | exact Ext.refl _ | apply Ext.alloc | apply Ext.drew | apply Ext.drewN | apply Ext.setCell))); all_goals (first | omega | (simp; done) | (simp; omega)))) E6
  have P0_6 := (P0_5.al _).ext E6
  have P1_6 := (P1_5.al _).ext E6
  have P2_6 := (P2_5.al _).ext E6
  have D0 := P0_6
  obtain ⟨d0z, ⟨d0_0, d0_1, d0_2, d0_3⟩, _⟩ := D0
  have D1 := P1_6
  obtain ⟨d1z, ⟨d1_0, d1_1, d1_2, d1_3⟩, _⟩ := D1
  have D2 := P2_6
  obtain ⟨d2z, ⟨d2_0, d2_1, d2_2, d2_3⟩, _⟩ := D2
  have QX6 := (QX.al _).ext E6
  have QY6 := blk_top (b := w5.heap.size) rfl E6
  obtain ⟨qxz, ⟨qx0, qx1, qx2, qx3⟩, _⟩ := QX6
  obtain ⟨qyz, ⟨qy0, qy1, qy2, qy3⟩, _⟩ := QY6
  clear E1 E2 E3 E4 E5 E6 X1 X2 X3 X4 X5 P0_1 P1_1 P2_1 P0_2 P1_2 P2_2 P0_3 P1_3 P2_3 P0_4 P1_4 P2_4 P0_5 P1_5 P2_5 QX P0_6 P1_6 P2_6 d0z d0_0 d0_1 d0_2 d0_3 d1z d1_0 d1_1 d1_2 d1_3 d2z d2_0 d2_1 d2_2 d2_3
  go_wp2_with fail
  refine (cl _ (hN.ext (by ((with_reducible (repeat' (first | assumption | exact Ext.refl _ | apply Ext.alloc | apply Ext.drew | apply Ext.drewN | apply Ext.setCell))); all_goals (first | omega | (simp; done) | (simp; omega)))))).mono ?_
  rintro r w7 ⟨rfl, E7⟩
  have X7 : Ext w w7 := Ext.trans (by ((with_reducible (repeat' (first | assumption | exact Ext.refl _ | apply Ext.alloc | apply Ext.drew | apply Ext.drewN | apply Ext.setCell))); all_goals (first | omega | (simp; done) | (simp; omega)))) E7
  go_wp2_with fail
  go_ret
  exact ⟨ret_bool rfl, X7⟩
theorem walk (k0 n0 : Int) (s0 : ByteArray) (e0 k1 n1 : Int) (s1 : ByteArray) (e1 k2 n2 : Int) (s2 : ByteArray) (e2 : Int) (_ : (Lit.int .i64 k0).wf = true) (_ : (Lit.int .i64 n0).wf = true) (_ : s0.size ≤ maxLen) (_ : (Lit.int .i64 e0).wf = true) (_ : (Lit.int .i64 k1).wf = true) (_ : (Lit.int .i64 n1).wf = true) (_ : s1.size ≤ maxLen) (_ : (Lit.int .i64 e1).wf = true) (_ : (Lit.int .i64 k2).wf = true) (_ : (Lit.int .i64 n2).wf = true) (_ : s2.size ≤ maxLen) (_ : (Lit.int .i64 e2).wf = true) (w : World) (hN : Nm w) :
    Calls Tryd.prog 3 #[.agg #[.int .i64 k0, .int .i64 n0, .string s0, .int .i64 e0], .agg #[.int .i64 k1, .int .i64 n1, .string s1, .int .i64 e1], .agg #[.int .i64 k2, .int .i64 n2, .string s2, .int .i64 e2]] w fun e w' => e = .returned (.bool true) ∧ Ext w w' := by
  have d0 := fun W => rnormal_any k0 n0 s0 e0 W
  have d1 := fun W => rnormal_any k1 n1 s1 e1 W
  have d2 := fun W => rnormal_any k2 n2 s2 e2 W
  have c1 := fun W h => vcompare_any k0 n0 s0 e0 k1 n1 s1 e1 W h
  have c2 := fun W h => vcompare_any k1 n1 s1 e1 k2 n2 s2 e2 W h
  have c3 := fun W h => vcompare_any k0 n0 s0 e0 k2 n2 s2 e2 W h
  rw [dat_eq] at d0 d1 d2 c1 c2 c3
  have o1 := cmp_ord (nm k0 n0 s0 e0) (nm k1 n1 s1 e1)
  have o2 := cmp_ord (nm k1 n1 s1 e1) (nm k2 n2 s2 e2)
  have o3 := cmp_ord (nm k0 n0 s0 e0) (nm k2 n2 s2 e2)
  have og := ord_go (nm k0 n0 s0 e0) (nm k1 n1 s1 e1) (nm k2 n2 s2 e2)
  have r1 := ord_rng (nm k0 n0 s0 e0) (nm k1 n1 s1 e1)
  have r2 := ord_rng (nm k1 n1 s1 e1) (nm k2 n2 s2 e2)
  have b0 : ∀ x : Int, x ≠ 0 → (x == 0) = false := fun x h => by simpa using h
  have b4 : ∀ x : Int, x ≠ 4 → (x == 4) = false := fun x h => by simpa using h
  generalize nm k0 n0 s0 e0 = a at *
  generalize nm k1 n1 s1 e1 = b at *
  generalize nm k2 n2 s2 e2 = c at *
  by_cases ha : a.k = 0
  · rw [ha] at d0; exact way1 k0 n0 s0 e0 k1 n1 s1 e1 k2 n2 s2 e2 w hN _ _ _ d0
  · by_cases hb : b.k = 0
    · rw [hb] at d1; exact way2 k0 n0 s0 e0 k1 n1 s1 e1 k2 n2 s2 e2 w hN _ _ _ _ _ _ _ (b0 _ ha) d0 d1
    · by_cases hc : c.k = 0
      · rw [hc] at d2; exact way3 k0 n0 s0 e0 k1 n1 s1 e1 k2 n2 s2 e2 w hN _ _ _ _ _ _ _ _ _ _ _ (b0 _ ha) (b0 _ hb) d0 d1 d2
      · by_cases hx : (cmpE a b).k = 4
        · rw [hx] at c1; exact way4a k0 n0 s0 e0 k1 n1 s1 e1 k2 n2 s2 e2 w hN _ _ _ _ _ _ _ _ _ _ _ _ (b0 _ ha) (b0 _ hb) (b0 _ hc) d0 d1 d2 _ _ _ _ _ _ _ _ _ _ _ _ _ _ c1 c2 c3
        · by_cases hy : (cmpE b c).k = 4
          · rw [hy] at c2; exact way4b k0 n0 s0 e0 k1 n1 s1 e1 k2 n2 s2 e2 w hN _ _ _ _ _ _ _ _ _ _ _ _ (b0 _ ha) (b0 _ hb) (b0 _ hc) d0 d1 d2 _ _ _ _ _ _ _ _ _ _ _ _ _ _ (b4 _ hx) c1 c2 c3
          · by_cases hz : (cmpE a c).k = 4
            · rw [hz] at c3; exact way4c k0 n0 s0 e0 k1 n1 s1 e1 k2 n2 s2 e2 w hN _ _ _ _ _ _ _ _ _ _ _ _ (b0 _ ha) (b0 _ hb) (b0 _ hc) d0 d1 d2 _ _ _ _ _ _ _ _ _ _ _ _ _ _ (b4 _ hx) (b4 _ hy) c1 c2 c3
            · obtain ⟨e1', fa, fb⟩ := o1 ha hb hx
              obtain ⟨e2', _, fc⟩ := o2 hb hc hy
              obtain ⟨e3', _, _⟩ := o3 ha hc hz
              have og := og ⟨ha, fa⟩ ⟨hb, fb⟩ ⟨hc, fc⟩
              rw [e1'] at c1
              rw [e2'] at c2
              rw [e3'] at c3
              rcases r1 with h | h | h
              · rcases r2 with g | g | g
                · have k := og (by omega) (by omega)
                  rw [if_neg (by omega)] at k
                  rw [h] at c1; rw [g] at c2; rw [k] at c3
                  exact way5g k0 n0 s0 e0 k1 n1 s1 e1 k2 n2 s2 e2 w hN _ _ _ _ _ _ _ _ _ _ _ _ (b0 _ ha) (b0 _ hb) (b0 _ hc) d0 d1 d2 _ _ _ _ _ _ _ _ _ _ _ _ (b4 _ hx) (b4 _ hy) (b4 _ hz) c1 c2 c3
                · have k := og (by omega) (by omega)
                  rw [if_neg (by omega)] at k
                  rw [h] at c1; rw [g] at c2; rw [k] at c3
                  exact way5f k0 n0 s0 e0 k1 n1 s1 e1 k2 n2 s2 e2 w hN _ _ _ _ _ _ _ _ _ _ _ _ (b0 _ ha) (b0 _ hb) (b0 _ hc) d0 d1 d2 _ _ _ _ _ _ _ _ _ _ _ _ (b4 _ hx) (b4 _ hy) (b4 _ hz) c1 c2 c3
                · rw [h] at c1; rw [g] at c2
                  exact way5c k0 n0 s0 e0 k1 n1 s1 e1 k2 n2 s2 e2 w hN _ _ _ _ _ _ _ _ _ _ _ _ (b0 _ ha) (b0 _ hb) (b0 _ hc) d0 d1 d2 _ _ _ _ _ _ _ _ _ _ _ _ _ (b4 _ hx) (b4 _ hy) (b4 _ hz) c1 c2 c3
              · rcases r2 with g | g | g
                · have k := og (by omega) (by omega)
                  rw [if_neg (by omega)] at k
                  rw [h] at c1; rw [g] at c2; rw [k] at c3
                  exact way5e k0 n0 s0 e0 k1 n1 s1 e1 k2 n2 s2 e2 w hN _ _ _ _ _ _ _ _ _ _ _ _ (b0 _ ha) (b0 _ hb) (b0 _ hc) d0 d1 d2 _ _ _ _ _ _ _ _ _ _ _ _ (b4 _ hx) (b4 _ hy) (b4 _ hz) c1 c2 c3
                · have k := og (by omega) (by omega)
                  rw [if_pos ⟨h, g⟩] at k
                  rw [h] at c1; rw [g] at c2; rw [k] at c3
                  exact way5d k0 n0 s0 e0 k1 n1 s1 e1 k2 n2 s2 e2 w hN _ _ _ _ _ _ _ _ _ _ _ _ (b0 _ ha) (b0 _ hb) (b0 _ hc) d0 d1 d2 _ _ _ _ _ _ _ _ _ _ _ _ (b4 _ hx) (b4 _ hy) (b4 _ hz) c1 c2 c3
                · rw [h] at c1; rw [g] at c2
                  exact way5b k0 n0 s0 e0 k1 n1 s1 e1 k2 n2 s2 e2 w hN _ _ _ _ _ _ _ _ _ _ _ _ (b0 _ ha) (b0 _ hb) (b0 _ hc) d0 d1 d2 _ _ _ _ _ _ _ _ _ _ _ _ _ (b4 _ hx) (b4 _ hy) (b4 _ hz) c1 c2 c3
              · rw [h] at c1
                exact way5a k0 n0 s0 e0 k1 n1 s1 e1 k2 n2 s2 e2 w hN _ _ _ _ _ _ _ _ _ _ _ _ (b0 _ ha) (b0 _ hb) (b0 _ hc) d0 d1 d2 _ _ _ _ _ _ _ _ _ _ _ _ _ _ (b4 _ hx) (b4 _ hy) (b4 _ hz) c1 c2 c3

theorem laidOut : laidOutB Tryd.prog = true := by kernel_rfl
theorem cellsVal : Tryd.prog.cellsOf 23 = 4 := by kernel_rfl
set_option maxRecDepth 100000 in
theorem contract (H : Type) (enc : TypeId × Value → H) (W : World) (base : Nat) (args : Array Value) (ds gs : List (DataW H)) (before : List MemPlace)
    (hval0 : ∀ (j : Nat) t v, Tryd.f3.params[j]? = some t → args[j]? = some v → Value.okWide Tryd.prog W .any base t v)
    (hW : DataW.Whole enc Tryd.prog Tryd.f3.params.toList Rows.valueOrdersSpec.vars false W args.toList ds gs before) (hL : laidMetH Tryd.prog Rows.valueOrdersRow.laid W) :
    Calls Tryd.prog 3 args W fun e W' => ∃ v, e = .returned v ∧ Rows.valueOrdersSpec.post enc Tryd.prog Tryd.f3 false true false false W args v W' := by
  have hval := hval0
  have hW' := hW
  obtain ⟨p, q, hA0, hV, rfl, hfz, hnd⟩ := hW
  have hA : DataW.TrodAll enc Tryd.prog W 0 (fun _ => true) true Tryd.f3.params.toList args.toList ds p := hA0
  rw [Tryd.params3] at hA hval
  obtain ⟨v0, vs0, d0, ds0, p0, q0, hargs, rfl, rfl, h0, r0⟩ := trodAll_cons hA
  obtain ⟨v1, vs1, d1, ds1, p1, q1, rfl, rfl, rfl, h1, r1⟩ := trodAll_cons r0
  obtain ⟨v2, vs2, d2, ds2, p2, q2, rfl, rfl, rfl, h2, r2⟩ := trodAll_cons r1
  obtain ⟨rfl, rfl, rfl⟩ := trodAll_nil r2
  obtain rfl : args = #[v0, v1, v2] := by cases args; simp_all
  obtain ⟨rfl, rfl⟩ := trodVars_none hV
  have j0 := h0
  have lt0 : ∀ x ∈ p0, x.block < W.heap.size := by obtain ⟨m, hm⟩ := j0; exact DataW.trod_lt m _ _ _ hm
  obtain ⟨c0, c1, c2, c3, y0, y1, y2, y3, m0, rfl, hd0, hp0, hy0, hy1, hy2, hy3⟩ := open_agg4 Tryd.underlying23 (by kernel_rfl) cellsVal (hval 0 23 v0 rfl rfl) h0
  obtain ⟨k0, f0, _, wk0⟩ := DataW.trod_int Tryd.underlying3 hy0
  obtain ⟨n0, f1, _, wn0⟩ := DataW.trod_int Tryd.underlying2 hy1
  obtain ⟨e0, f3, _, we0⟩ := DataW.trod_int Tryd.underlying3 hy3
  obtain ⟨s0, f2, _, ws0⟩ := DataW.trod_string Tryd.underlying9 hy2
  simp only [List.cons.injEq, and_true] at f0 f1 f2 f3
  obtain rfl := f0
  obtain rfl := f1
  obtain rfl := f2
  obtain rfl := f3
  have j1 := h1
  have lt1 : ∀ x ∈ p1, x.block < W.heap.size := by obtain ⟨m, hm⟩ := j1; exact DataW.trod_lt m _ _ _ hm
  obtain ⟨c0, c1, c2, c3, y0, y1, y2, y3, m1, rfl, hd1, hp1, hy0, hy1, hy2, hy3⟩ := open_agg4 Tryd.underlying23 (by kernel_rfl) cellsVal (hval 1 23 v1 rfl rfl) h1
  obtain ⟨k1, f0, _, wk1⟩ := DataW.trod_int Tryd.underlying3 hy0
  obtain ⟨n1, f1, _, wn1⟩ := DataW.trod_int Tryd.underlying2 hy1
  obtain ⟨e1, f3, _, we1⟩ := DataW.trod_int Tryd.underlying3 hy3
  obtain ⟨s1, f2, _, ws1⟩ := DataW.trod_string Tryd.underlying9 hy2
  simp only [List.cons.injEq, and_true] at f0 f1 f2 f3
  obtain rfl := f0
  obtain rfl := f1
  obtain rfl := f2
  obtain rfl := f3
  have j2 := h2
  have lt2 : ∀ x ∈ p2, x.block < W.heap.size := by obtain ⟨m, hm⟩ := j2; exact DataW.trod_lt m _ _ _ hm
  obtain ⟨c0, c1, c2, c3, y0, y1, y2, y3, m2, rfl, hd2, hp2, hy0, hy1, hy2, hy3⟩ := open_agg4 Tryd.underlying23 (by kernel_rfl) cellsVal (hval 2 23 v2 rfl rfl) h2
  obtain ⟨k2, f0, _, wk2⟩ := DataW.trod_int Tryd.underlying3 hy0
  obtain ⟨n2, f1, _, wn2⟩ := DataW.trod_int Tryd.underlying2 hy1
  obtain ⟨e2, f3, _, we2⟩ := DataW.trod_int Tryd.underlying3 hy3
  obtain ⟨s2, f2, _, ws2⟩ := DataW.trod_string Tryd.underlying9 hy2
  simp only [List.cons.injEq, and_true] at f0 f1 f2 f3
  obtain rfl := f0
  obtain rfl := f1
  obtain rfl := f2
  obtain rfl := f3
  clear hA0 hval0
  refine (walk k0 n0 s0 e0 k1 n1 s1 e1 k2 n2 s2 e2 wk0 wn0 ws0 we0 wk1 wn1 ws1 we1 wk2 wn2 ws2 we2 W (nm_ofO hL)).mono fun e W' ⟨he, bel⟩ => ?_
  subst he
  exact ⟨_, rfl, _, _, _, [], _, [], hW', trodAll_mk1 (shut_bool Tryd.underlying4 _), (trodAll_cons_mk (Below.trod laidOut (by kernel_rfl) (of_decide_eq_true (by kernel_rfl)) j0 bel lt0) (trodAll_cons_mk (Below.trod laidOut (by kernel_rfl) (of_decide_eq_true (by kernel_rfl)) j1 bel lt1) (trodAll_cons_mk (Below.trod laidOut (by kernel_rfl) (of_decide_eq_true (by kernel_rfl)) j2 bel lt2) trodAll_mk0))), rfl, Below.frame bel _, fun h => by cases h⟩

theorem laid_met (os : Os) : laidMet Tryd.prog Rows.valueOrdersRow.laid ((laidWorldO os).forCall (fun _ _ => 0) ⟨#[], #[.agg #[.int .i64 0, .int .i64 0, .string ⟨#[]⟩, .int .i64 0], .agg #[.int .i64 0, .int .i64 0, .string ⟨#[]⟩, .int .i64 0], .agg #[.int .i64 0, .int .i64 0, .string ⟨#[]⟩, .int .i64 0]], []⟩).memory :=
  laidMet_of_run' 8 (by kernel_rfl) (by kernel_rfl)
theorem reads (os : Os) {H : Type} (enc : TypeId × Value → H) : ∃ places, DataW.whole enc Tryd.prog ((laidWorldO os).forCall (fun _ _ => 0) ⟨#[], #[.agg #[.int .i64 0, .int .i64 0, .string ⟨#[]⟩, .int .i64 0], .agg #[.int .i64 0, .int .i64 0, .string ⟨#[]⟩, .int .i64 0], .agg #[.int .i64 0, .int .i64 0, .string ⟨#[]⟩, .int .i64 0]], []⟩).memory Tryd.f3.params.toList Rows.valueOrdersSpec.vars false (#[.agg #[.int .i64 0, .int .i64 0, .string ⟨#[]⟩, .int .i64 0], .agg #[.int .i64 0, .int .i64 0, .string ⟨#[]⟩, .int .i64 0], .agg #[.int .i64 0, .int .i64 0, .string ⟨#[]⟩, .int .i64 0]] : Array Value).toList 8 = some ([.agg [.lit (.int .i64 0), .lit (.int .i64 0), .lit (.string []), .lit (.int .i64 0)], .agg [.lit (.int .i64 0), .lit (.int .i64 0), .lit (.string []), .lit (.int .i64 0)], .agg [.lit (.int .i64 0), .lit (.int .i64 0), .lit (.string []), .lit (.int .i64 0)]], [], places) :=
  ⟨[], by kernel_rfl⟩

set_option maxRecDepth 100000 in
theorem lifted (os : Os) (started : os.Started) (H : Type) (enc : TypeId × Value → H) (F : Stop.Interp) :
    ReturnsInHanded {} Tryd.checked os 3 .any ((OpenSpec.ofChange Rows.valueOrdersSpec).preRow enc Tryd.prog Tryd.f3 Rows.valueOrdersRow.domain false Rows.valueOrdersRow.laid) (((OpenSpec.ofChange Rows.valueOrdersSpec).at F).post enc Tryd.prog Tryd.f3 false true false false) := by
  obtain ⟨places, hx⟩ := reads os enc
  refine returnsInHanded_of_row (C := Tryd.checked) (s := OpenSpec.ofChange Rows.valueOrdersSpec) ownK started (by kernel_rfl) Tryd.func3
    (witness_row_at (enc := enc) (C := Tryd.checked) false (laidWorldO os) #[.agg #[.int .i64 0, .int .i64 0, .string ⟨#[]⟩, .int .i64 0], .agg #[.int .i64 0, .int .i64 0, .string ⟨#[]⟩, .int .i64 0], .agg #[.int .i64 0, .int .i64 0, .string ⟨#[]⟩, .int .i64 0]] rfl (by kernel_rfl) (by kernel_rfl) (by kernel_rfl)
      (OpenSpec.preRow_of_cond 8 hx (by kernel_rfl) (fun k hk => by cases hk) (by kernel_rfl) (by
        rw [MakeChecks.laidMetH_plain _ _ _ (by kernel_rfl)]
        exact laid_met os))) ?_
  intro W base args ds gs before hval hW _ _ _ hL _ _
  exact contract H enc W base args ds gs before hval hW hL

theorem said : Rows.ValueOrdersSaid :=
  OpenClaim.holds_of_cond 3 Tryd.f3 rfl rfl rfl rfl rfl rfl rfl ⟨rfl, rfl, rfl, rfl, rfl⟩ rfl rfl rfl rfl rfl (by kernel_rfl) Tryd.func3 (by kernel_rfl)
    (of_decide_eq_true (by kernel_rfl)) (by unfold Func.isWrapper; first | (rw [if_pos (by decide +kernel)]; kernel_rfl) | (rw [if_neg (by decide +kernel)]; exact ⟨rfl, rfl⟩))
    (fun os started H enc _ F => by rw [OpenClaim.pre_eq_preRow]; exact lifted os started H enc F)

theorem plain (f : FuncId) (fn : Func) (hf : Tryd.pinned.checked.prog.funcNamed Rows.valueOrdersRow.func = some f) (hfn : Tryd.pinned.checked.prog.funcs[f]? = some fn) :
    false = Tryd.pinned.checked.prog.looks [] ∧ ∀ (j : Nat) t, fn.params[j]? = some t → Tryd.pinned.checked.prog.wantsStandIn t = false := by
  obtain rfl : f = 3 := Option.some.inj ((show Tryd.prog.funcNamed Rows.valueOrdersRow.func = some 3 by kernel_rfl).symm.trans hf) |>.symm
  obtain rfl : fn = Tryd.f3 := (Option.some.inj (Tryd.func3.symm.trans hfn)).symm
  refine ⟨by kernel_rfl, fun j t ht => ?_⟩
  rw [Tryd.params3] at ht
  have hm : t ∈ [23, 23, 23] := by simpa using Array.mem_of_getElem? ht
  have hall : ([23, 23, 23].all fun u => !Tryd.prog.wantsStandIn u) = true := by kernel_rfl
  exact (show Tryd.prog.wantsStandIn t = false by simpa using List.all_eq_true.1 hall t hm)

theorem card : Rows.ValueOrdersCardSaid :=
  Claim7.holds_tied_plain_at .later [] _ _ _ _ said (fun _ h => by cases h) (by kernel_rfl) (fun _ h => by cases h) valueOrders_row_tie rfl ⟨rfl, rfl⟩ (by kernel_rfl) rfl plain (by kernel_rfl)
end Go.Proofs.YtlfkiepnahgbeabDoor.valueOrders
namespace Go.Proofs.YtlfkiepnahgbeabDoor
theorem valueOrders_card : Rows.ValueOrdersCardSaid := valueOrders.card
end Go.Proofs.YtlfkiepnahgbeabDoor
