/-
 The document's Same, of any two trees.
 The document's Deep: how many trees lie in one another.
-/
import Derived.Test.YtcggiljlilbdfaaGreatDoorQ33
import Derived.Test.YtcggiljlilbdfaaGreatDoorQ11
import Derived.Laws.StructEq
namespace Go.Proofs.YtcggiljlilbdfaaGreatDoor
open Go.RowKit
set_option maxHeartbeats 6000000

/-- Whether two lists are alike by g, one by one. -/
def allZ (g : T → T → Bool) : List T → List T → Bool
 | [], [] => true
 | a :: l, b :: m => g a b && allZ g l m
 | _, _ => false
/-- Whether two trees are one. -/
def sameT : Nat → T → T → Bool
 | 0, _, _ => false
 | n + 1, a, b => if ¬ a.k = b.k then false else if a.k = 0 ∨ a.k = 2 then a.n == b.n else if a.k = 3 then a.e == b.e else if a.k = 4 then decide (a.r = b.r) else if a.k = 5 then (decide (a.r = b.r) && decide (a.q = b.q)) else
   if a.k = 1 then a.s == b.s else if ¬ (a.k = 6 ∨ a.k = 7 ∨ a.k = 8) then true else if ¬ a.k = 6 ∧ ¬ a.s = b.s then false else allZ (sameT n) a.l b.l
theorem allZ_len (g : T → T → Bool) (l m : List T) (h : l.length ≠ m.length) : allZ g l m = false := by
 induction l generalizing m with
 | nil => cases m with
   | nil => exact absurd rfl h
   | cons => rfl
 | cons a l ih => cases m with
   | nil => rfl
   | cons b m =>
     unfold allZ
     rw [ih m (by simpa using h)]
     simp
theorem allZ_take (g : T → T → Bool) (l m : List T) (j : Nat) (x y : T) (hx : l[j]? = some x) (hy : m[j]? = some y) : allZ g (l.take (j + 1)) (m.take (j + 1)) = (allZ g (l.take j) (m.take j) && g x y) := by
 induction j generalizing l m with
 | zero =>
   cases l with
   | nil => cases hx
   | cons a l => cases m with
     | nil => cases hy
     | cons b m => simp at hx hy; subst hx hy; simp [allZ]
 | succ j ih =>
   cases l with
   | nil => cases hx
   | cons a l => cases m with
     | nil => cases hy
     | cons b m =>
       simp at hx hy
       rw [List.take_succ_cons, List.take_succ_cons, List.take_succ_cons, List.take_succ_cons, allZ, allZ, ih l m hx hy, Bool.and_assoc]
theorem allZ_no (g : T → T → Bool) (l m : List T) (j : Nat) (x y : T) (hx : l[j]? = some x) (hy : m[j]? = some y) (h : g x y = false) : allZ g l m = false := by
 induction j generalizing l m with
 | zero =>
   cases l with
   | nil => cases hx
   | cons a l => cases m with
     | nil => cases hy
     | cons b m => simp at hx hy; subst hx hy; simp [allZ, h]
 | succ j ih =>
   cases l with
   | nil => cases hx
   | cons a l => cases m with
     | nil => cases hy
     | cons b m => simp at hx hy; simp [allZ, ih l m hx hy]
theorem eq_rf (s t : Rf) (w : World) : Sem.run Tryz.prog (Op.equalIn 10000 26 (.agg #[.int .i64 s.1, .int .i64 s.2.1, .bool s.2.2.1, .bool s.2.2.2]) (.agg #[.int .i64 t.1, .int .i64 t.2.1, .bool t.2.2.1, .bool t.2.2.2])) w = .ok (decide (s = t)) w := by
 have u3 := Tryz.underlying3
 have a3 := Tryz.isAgg3
 have z3 := Tryz.sizeOf3
 have u4 := Tryz.underlying4
 have hS : Tryz.prog.underlying 26 = some (.struct (Tryz.prog.fieldsOf 26)) := by kernel_rfl
 have hp : Tryz.prog.stoodInHeld 26 = false := by kernel_rfl
 obtain ⟨s1, s2, s3, s4⟩ := s
 obtain ⟨t1, t2, t3, t4⟩ := t
 rw [show (10000 : Nat) = 9999 + 1 from rfl, run_equalIn_agg w 9999 26 _ _ hS hp]
 simp only [Program.fieldsOf, Tryz.underlying26]
 go_simp
 by_cases h1 : s1 = t1 <;> by_cases h2 : s2 = t2 <;> by_cases h3 : s3 = t3 <;> by_cases h4 : s4 = t4 <;> simp [h1, h2, h3, h4]
theorem gd_rf (x y : Array Value) (op : BinOp) (a b : Operand) (w : World) : (eqGuard op 26 a b (.agg x) (.agg y)).run Tryz.prog w = .ok () w := run_eqGuard_agg w op 26 a b x y (by kernel_rfl)
theorem bs_tl9 (x : List UInt8) : (bs x).toList = x := by rw [ByteArray.toList_eq]; rfl
def SmC (K : FuncId) (P : Nat → Prop) (n : Nat) (a : T) : Prop := ∀ (b : T) (W : World) (pp qq : Option Addr) (ln cl lm cm : Nat), IsL W P (.slice pp ln cl) a.l → IsL W P (.slice qq lm cm) b.l →
 Calls Tryz.prog K #[.agg #[.int .i64 a.k, .int .i64 a.n, .string (bs a.s), .int .i64 a.e, .int .i64 a.r.1, .int .i64 a.r.2.1, .bool a.r.2.2.1, .bool a.r.2.2.2, .int .i64 a.q.1, .int .i64 a.q.2.1, .bool a.q.2.2.1, .bool a.q.2.2.2, .slice pp ln cl], .agg #[.int .i64 b.k, .int .i64 b.n, .string (bs b.s), .int .i64 b.e, .int .i64 b.r.1, .int .i64 b.r.2.1, .bool b.r.2.2.1, .bool b.r.2.2.2, .int .i64 b.q.1, .int .i64 b.q.2.1, .bool b.q.2.2.1, .bool b.q.2.2.2, .slice qq lm cm]] W fun e w' => e = .returned (.bool (sameT n a b)) ∧ Ext W w'
set_option maxRecDepth 100000 in
theorem rparts_any (k : Int) (w : World) : Calls Tryz.prog 14 #[.int .i64 k] w fun e w' => e = .returned (.bool (decide (k = 6 ∨ k = 7 ∨ k = 8))) ∧ w' = w := by
 by_cases h6 : k = 6
 · subst h6
   go_enter Tryz.func14, Tryz.ntmps14
   go_wp2_with fail
   go_ret
   exact ⟨rfl, rfl⟩
 by_cases h7 : k = 7
 · subst h7
   go_enter Tryz.func14, Tryz.ntmps14
   go_wp2_with fail
   go_ret
   exact ⟨rfl, rfl⟩
 by_cases h8 : k = 8
 · subst h8
   go_enter Tryz.func14, Tryz.ntmps14
   go_wp2_with fail
   go_ret
   exact ⟨rfl, rfl⟩
 have e6 : (k == 6) = false := by simpa using h6
 have e7 : (k == 7) = false := by simpa using h7
 have e8 : (k == 8) = false := by simpa using h8
 have HR : Hid (decide (k = 6 ∨ k = 7 ∨ k = 8) = false) := by show _ = _; simp [h6, h7, h8]
 clear h6 h7 h8
 go_enter Tryz.func14, Tryz.ntmps14
 go_wp2_with fail
 go_ret
 exact ⟨ret_bool HR.out.symm, rfl⟩
set_option maxRecDepth 100000 in
theorem rsame_leaf (P : Nat → Prop) (n : Nat) (a : T) (h678 : ¬ (a.k = 6 ∨ a.k = 7 ∨ a.k = 8)) : SmC 7 P (n + 1) a := by
 intro b W pp qq ln cl lm cm _ _
 have eR := fun W => eq_rf a.r b.r W
 have eQ := fun W => eq_rf a.q b.q W
 by_cases hnb : ¬ a.k = b.k
 · have hkb := hnb
   clear hnb
   have kn : (a.k != b.k) = true := by simpa using hkb
   have HX : Hid (sameT (n + 1) a b = false) := by show _ = _; unfold sameT; rw [if_pos hkb]
   clear hkb h678 eR eQ
   go_enter Tryz.func7, Tryz.ntmps7
   go_wp2_with fail
   go_ret
   exact ⟨ret_bool (by rw [HX.out]), ((Ext.refl _).alloc _).alloc _⟩
 have hkb : a.k = b.k := Decidable.not_not.1 hnb
 clear hnb
 have kn : (a.k != b.k) = false := by rw [hkb]; simp
 by_cases hk : a.k = 0
 · have e0 : (a.k == 0) = true := by rw [hk]; rfl
   have e2 : (a.k == 2) = false := by rw [hk]; rfl
   have e3 : (a.k == 3) = false := by rw [hk]; rfl
   have e4 : (a.k == 4) = false := by rw [hk]; rfl
   have e5 : (a.k == 5) = false := by rw [hk]; rfl
   have e1 : (a.k == 1) = false := by rw [hk]; rfl
   have HX : Hid (sameT (n + 1) a b = (a.n == b.n)) := by show _ = _; unfold sameT; rw [if_neg (by rw [← hkb]; simp)]; simp [hk]
   clear hk hkb h678 eR eQ
   go_enter Tryz.func7, Tryz.ntmps7
   go_wp2_with fail
   go_ret
   exact ⟨ret_bool (by rw [HX.out]), ((Ext.refl _).alloc _).alloc _⟩
 have n0 := hk
 clear hk
 by_cases hk : a.k = 2
 · have e0 : (a.k == 0) = false := by rw [hk]; rfl
   have e2 : (a.k == 2) = true := by rw [hk]; rfl
   have e3 : (a.k == 3) = false := by rw [hk]; rfl
   have e4 : (a.k == 4) = false := by rw [hk]; rfl
   have e5 : (a.k == 5) = false := by rw [hk]; rfl
   have e1 : (a.k == 1) = false := by rw [hk]; rfl
   have HX : Hid (sameT (n + 1) a b = (a.n == b.n)) := by show _ = _; unfold sameT; rw [if_neg (by rw [← hkb]; simp)]; simp [hk]
   clear hk hkb h678 eR eQ
   go_enter Tryz.func7, Tryz.ntmps7
   go_wp2_with fail
   go_ret
   exact ⟨ret_bool (by rw [HX.out]), ((Ext.refl _).alloc _).alloc _⟩
 have n2 := hk
 clear hk
 by_cases hk : a.k = 3
 · have e0 : (a.k == 0) = false := by rw [hk]; rfl
   have e2 : (a.k == 2) = false := by rw [hk]; rfl
   have e3 : (a.k == 3) = true := by rw [hk]; rfl
   have e4 : (a.k == 4) = false := by rw [hk]; rfl
   have e5 : (a.k == 5) = false := by rw [hk]; rfl
   have e1 : (a.k == 1) = false := by rw [hk]; rfl
   have HX : Hid (sameT (n + 1) a b = (a.e == b.e)) := by show _ = _; unfold sameT; rw [if_neg (by rw [← hkb]; simp)]; simp [hk]
   clear hk hkb h678 eR eQ
   go_enter Tryz.func7, Tryz.ntmps7
   go_wp2_with fail
   go_ret
   exact ⟨ret_bool (by rw [HX.out]), ((Ext.refl _).alloc _).alloc _⟩
 have n3 := hk
 clear hk
 by_cases hk : a.k = 4
 · have e0 : (a.k == 0) = false := by rw [hk]; rfl
   have e2 : (a.k == 2) = false := by rw [hk]; rfl
   have e3 : (a.k == 3) = false := by rw [hk]; rfl
   have e4 : (a.k == 4) = true := by rw [hk]; rfl
   have e5 : (a.k == 5) = false := by rw [hk]; rfl
   have e1 : (a.k == 1) = false := by rw [hk]; rfl
   have HX : Hid (sameT (n + 1) a b = decide (a.r = b.r)) := by show _ = _; unfold sameT; rw [if_neg (by rw [← hkb]; simp)]; simp [hk]
   have g1 := gd_rf
   clear hk hkb h678
   go_enter Tryz.func7, Tryz.ntmps7
   go_wp2_with fail
   go_ret
   exact ⟨ret_bool (by rw [HX.out]), ((Ext.refl _).alloc _).alloc _⟩
 have n4 := hk
 clear hk
 by_cases hk : a.k = 5
 · have e0 : (a.k == 0) = false := by rw [hk]; rfl
   have e2 : (a.k == 2) = false := by rw [hk]; rfl
   have e3 : (a.k == 3) = false := by rw [hk]; rfl
   have e4 : (a.k == 4) = false := by rw [hk]; rfl
   have e5 : (a.k == 5) = true := by rw [hk]; rfl
   have e1 : (a.k == 1) = false := by rw [hk]; rfl
   have HX : Hid (sameT (n + 1) a b = (decide (a.r = b.r) && decide (a.q = b.q))) := by show _ = _; unfold sameT; rw [if_neg (by rw [← hkb]; simp)]; simp [hk]
   have g1 := gd_rf
   clear hk hkb h678
   cases hr : decide (a.r = b.r)
   · rw [hr] at HX eR
     clear hr
     go_enter Tryz.func7, Tryz.ntmps7
     go_wp2_with fail
     go_ret
     exact ⟨ret_bool (by rw [HX.out]; rfl), ((Ext.refl _).alloc _).alloc _⟩
   · rw [hr] at HX eR
     clear hr
     go_enter Tryz.func7, Tryz.ntmps7
     go_wp2_with fail
     go_ret
     exact ⟨ret_bool (by rw [HX.out]; rfl), ((Ext.refl _).alloc _).alloc _⟩
 have n5 := hk
 clear hk
 by_cases hk : a.k = 1
 · have e0 : (a.k == 0) = false := by rw [hk]; rfl
   have e2 : (a.k == 2) = false := by rw [hk]; rfl
   have e3 : (a.k == 3) = false := by rw [hk]; rfl
   have e4 : (a.k == 4) = false := by rw [hk]; rfl
   have e5 : (a.k == 5) = false := by rw [hk]; rfl
   have e1 : (a.k == 1) = true := by rw [hk]; rfl
   have HX : Hid (sameT (n + 1) a b = (a.s == b.s)) := by show _ = _; unfold sameT; rw [if_neg (by rw [← hkb]; simp)]; simp [hk]
   have es : ((bs a.s).toList == (bs b.s).toList) = (a.s == b.s) := by rw [bs_tl9, bs_tl9]
   generalize bs a.s = qa at *
   generalize bs b.s = qb at *
   clear hk hkb h678 eR eQ
   go_enter Tryz.func7, Tryz.ntmps7
   go_wp2_with fail
   go_ret
   exact ⟨ret_bool (by rw [HX.out]), ((Ext.refl _).alloc _).alloc _⟩
 have n1 := hk
 clear hk
 have HX : Hid (sameT (n + 1) a b = true) := by show _ = _; unfold sameT; rw [if_neg (by rw [← hkb]; simp)]; simp [n0, n1, n2, n3, n4, n5, h678]
 have c1 := fun W => rparts_any a.k W
 rw [decide_eq_false h678] at c1
 have e0 : (a.k == 0) = false := by simpa using n0
 have e1 : (a.k == 1) = false := by simpa using n1
 have e2 : (a.k == 2) = false := by simpa using n2
 have e3 : (a.k == 3) = false := by simpa using n3
 have e4 : (a.k == 4) = false := by simpa using n4
 have e5 : (a.k == 5) = false := by simpa using n5
 clear h678 hkb n0 n1 n2 n3 n4 n5 eR eQ
 go_enter Tryz.func7, Tryz.ntmps7
 go_wp2_with fail
 refine (c1 _).mono ?_
 rintro e w1 ⟨rfl, rfl⟩
 go_wp2_with fail
 go_ret
 exact ⟨ret_bool (by rw [HX.out]), ((Ext.refl _).alloc _).alloc _⟩
set_option maxRecDepth 100000 in
theorem rsame_6 (P : Nat → Prop) (n : Nat) (a : T) (hk : a.k = 6) (hl : a.l.length ≤ 100000) (hx : ∀ x ∈ a.l, SmC 7 P n x) : SmC 7 P (n + 1) a := by
 intro b W pp qq ln cl lm cm hI hJ
 have hln : a.l.length = ln := by
   obtain ⟨p, c, h1, _⟩ := hI.form
   cases h1; rfl
 have hlm : b.l.length = lm := by
   obtain ⟨p, c, h1, _⟩ := hJ.form
   cases h1; rfl
 have hl2 : ln ≤ 100000 := by omega
 have e0 : (a.k == 0) = false := by rw [hk]; rfl
 have e1 : (a.k == 1) = false := by rw [hk]; rfl
 have e2 : (a.k == 2) = false := by rw [hk]; rfl
 have e3 : (a.k == 3) = false := by rw [hk]; rfl
 have e4 : (a.k == 4) = false := by rw [hk]; rfl
 have e5 : (a.k == 5) = false := by rw [hk]; rfl
 have e6 : (a.k != 6) = false := by rw [hk]; rfl
 have c1 := fun W => rparts_any a.k W
 rw [decide_eq_true (show a.k = 6 ∨ a.k = 7 ∨ a.k = 8 by omega)] at c1
 by_cases hnb : ¬ a.k = b.k
 · have hkb := hnb
   clear hnb
   have kn : (a.k != b.k) = true := by simpa using hkb
   have HX : Hid (sameT (n + 1) a b = false) := by show _ = _; unfold sameT; rw [if_pos hkb]
   clear hk hkb hI hJ hln hlm hl hx c1
   go_enter Tryz.func7, Tryz.ntmps7
   go_wp2_with fail
   go_ret
   exact ⟨ret_bool (by rw [HX.out]), ((Ext.refl _).alloc _).alloc _⟩
 have hkb : a.k = b.k := Decidable.not_not.1 hnb
 clear hnb
 have kn : (a.k != b.k) = false := by rw [hkb]; simp
 have HX : Hid (sameT (n + 1) a b = allZ (sameT n) a.l b.l) := by show _ = _; unfold sameT; rw [if_neg (by rw [← hkb]; simp)]; simp [hk]
 by_cases hnl : ¬ ln = lm
 · have hll := hnl
   clear hnl
   have el : ((ln : Int) != (lm : Int)) = true := by simp; omega
   have HX : Hid (sameT (n + 1) a b = false) := by show _ = _; rw [HX.out]; exact allZ_len _ _ _ (by omega)
   clear hk hkb hI hJ hln hlm hl hx hll
   go_enter Tryz.func7, Tryz.ntmps7
   go_wp2_with fail
   refine (c1 _).mono ?_
   rintro e w1 ⟨rfl, rfl⟩
   go_wp2_with fail
   go_ret
   exact ⟨ret_bool (by rw [HX.out]), ((Ext.refl _).alloc _).alloc _⟩
 have hll : ln = lm := Decidable.not_not.1 hnl
 clear hnl
 have el : ((ln : Int) != (lm : Int)) = false := by simp; omega
 subst hll
 have ell : ((ln : Int) != (ln : Int)) = false := by simp
 have HI : Hid (IsL W P (.slice pp ln cl) a.l ∧ IsL W P (.slice qq ln cm) b.l) := ⟨hI, hJ⟩
 have HLN : Hid (a.l.length = ln ∧ b.l.length = ln) := ⟨hln, hlm⟩
 have HXX : Hid (∀ x ∈ a.l, SmC 7 P n x) := hx
 clear hk hkb hI hJ hln hlm hl hx
 go_enter Tryz.func7, Tryz.ntmps7
 go_wp2_with fail
 refine (c1 _).mono ?_
 rintro e w1 ⟨rfl, rfl⟩
 go_wp2_with fail
 go_loopw [5] (fun iv wr => ∃ j : Nat, j ≤ ln ∧ iv = .int .i64 (j : Int) ∧ allZ (sameT n) (a.l.take j) (b.l.take j) = true ∧ BlkX wr W.heap.size a (.slice pp ln cl) ∧ BlkX wr (W.heap.size + 1) b (.slice qq ln cm) ∧ Ext W wr) (fun iv _ => ln - (intOf iv).toNat)
 case atStart => exact ⟨0, Nat.zero_le _, rfl, rfl, blk13_top rfl ((Ext.refl _).alloc _), blk13_top (by simp) (Ext.refl _), ((Ext.refl _).alloc _).alloc _⟩
 case round =>
   obtain ⟨j, hj, rfl, hg, hB, hB2, hE⟩ := hrel
   have HE : Hid (Ext W wr ∧ allZ (sameT n) (a.l.take j) (b.l.take j) = true) := ⟨hE, hg⟩
   have HBX : Hid (BlkX wr W.heap.size a (.slice pp ln cl) ∧ BlkX wr (W.heap.size + 1) b (.slice qq ln cm)) := ⟨hB, hB2⟩
   obtain ⟨qz, ⟨k0, k1, k2, k3, k4, k5, k6, k7, k8, k9, k10, k11, k12⟩, gz⟩ := hB
   obtain ⟨qy, ⟨m0, m1, m2, m3, m4, m5, m6, m7, m8, m9, m10, m11, m12⟩, gy⟩ := hB2
   clear hE hg gz gy
   by_cases hlt : j < ln
   · have hltI : (j : Int) < (ln : Int) := by omega
     have hI := HI.out.1.ext HE.out.1
     have hJ := HI.out.2.ext HE.out.1
     obtain ⟨gb, off, x, lv, hpp, hx1, hA1, hgb, hA2, hLx, hce⟩ := hI.at (i := j) (by rw [HLN.out.1]; exact hlt)
     obtain ⟨gb2, off2, y, lv2, hqq, hy1, hA3, hgb2, hA4, hLy, hcf⟩ := hJ.at (i := j) (by rw [HLN.out.2]; exact hlt)
     clear hA1 hA2 hA3 hA4
     subst hpp hqq
     obtain ⟨p1, c1, hlv, hcl⟩ := hLx.form
     obtain ⟨l1, hl1⟩ : ∃ l1, x.l.length = l1 := ⟨_, rfl⟩
     rw [hl1] at hlv
     subst hlv
     obtain ⟨p2, c2, hlv2, hcl2⟩ := hLy.form
     obtain ⟨l2, hl2⟩ : ∃ l2, y.l.length = l2 := ⟨_, rfl⟩
     rw [hl2] at hlv2
     subst hlv2
     have HX1 : Hid (a.l[j]? = some x ∧ b.l[j]? = some y) := ⟨hx1, hy1⟩
     have HC : Hid (∀ V, Ext wr V → Calls Tryz.prog 7 #[.agg #[.int .i64 x.k, .int .i64 x.n, .string (bs x.s), .int .i64 x.e, .int .i64 x.r.1, .int .i64 x.r.2.1, .bool x.r.2.2.1, .bool x.r.2.2.2, .int .i64 x.q.1, .int .i64 x.q.2.1, .bool x.q.2.2.1, .bool x.q.2.2.2, .slice p1 l1 c1], .agg #[.int .i64 y.k, .int .i64 y.n, .string (bs y.s), .int .i64 y.e, .int .i64 y.r.1, .int .i64 y.r.2.1, .bool y.r.2.2.1, .bool y.r.2.2.2, .int .i64 y.q.1, .int .i64 y.q.2.1, .bool y.q.2.2.1, .bool y.q.2.2.2, .slice p2 l2 c2]] V fun e w' => e = .returned (.bool (sameT n x y)) ∧ Ext V w') := fun V e => HXX.out x (List.mem_of_getElem? hx1) y V p1 p2 l1 c1 l2 c2 (hLx.ext e) (hLy.ext e)
     have mkS : Hid (∀ V, Ext wr V → (V.cell? ⟨W.heap.size, 12, none⟩ = some (.slice (some ⟨gb, off, none⟩) ln cl) ∧ V.cell? ⟨W.heap.size + 1, 12, none⟩ = some (.slice (some ⟨gb2, off2, none⟩) ln cm)) ∧ (V.cell? ⟨gb, off + j * 13, none⟩ = some (.int .i64 x.k) ∧ V.cell? ⟨gb, off + j * 13 + 1, none⟩ = some (.int .i64 x.n) ∧ V.cell? ⟨gb, off + j * 13 + 2, none⟩ = some (.string (bs x.s)) ∧ V.cell? ⟨gb, off + j * 13 + 3, none⟩ = some (.int .i64 x.e) ∧ V.cell? ⟨gb, off + j * 13 + 4, none⟩ = some (.int .i64 x.r.1) ∧ V.cell? ⟨gb, off + j * 13 + 5, none⟩ = some (.int .i64 x.r.2.1) ∧ V.cell? ⟨gb, off + j * 13 + 6, none⟩ = some (.bool x.r.2.2.1) ∧ V.cell? ⟨gb, off + j * 13 + 7, none⟩ = some (.bool x.r.2.2.2) ∧ V.cell? ⟨gb, off + j * 13 + 8, none⟩ = some (.int .i64 x.q.1) ∧ V.cell? ⟨gb, off + j * 13 + 9, none⟩ = some (.int .i64 x.q.2.1) ∧ V.cell? ⟨gb, off + j * 13 + 10, none⟩ = some (.bool x.q.2.2.1) ∧ V.cell? ⟨gb, off + j * 13 + 11, none⟩ = some (.bool x.q.2.2.2) ∧ V.cell? ⟨gb, off + j * 13 + 12, none⟩ = some (.slice p1 l1 c1)) ∧ (V.cell? ⟨gb2, off2 + j * 13, none⟩ = some (.int .i64 y.k) ∧ V.cell? ⟨gb2, off2 + j * 13 + 1, none⟩ = some (.int .i64 y.n) ∧ V.cell? ⟨gb2, off2 + j * 13 + 2, none⟩ = some (.string (bs y.s)) ∧ V.cell? ⟨gb2, off2 + j * 13 + 3, none⟩ = some (.int .i64 y.e) ∧ V.cell? ⟨gb2, off2 + j * 13 + 4, none⟩ = some (.int .i64 y.r.1) ∧ V.cell? ⟨gb2, off2 + j * 13 + 5, none⟩ = some (.int .i64 y.r.2.1) ∧ V.cell? ⟨gb2, off2 + j * 13 + 6, none⟩ = some (.bool y.r.2.2.1) ∧ V.cell? ⟨gb2, off2 + j * 13 + 7, none⟩ = some (.bool y.r.2.2.2) ∧ V.cell? ⟨gb2, off2 + j * 13 + 8, none⟩ = some (.int .i64 y.q.1) ∧ V.cell? ⟨gb2, off2 + j * 13 + 9, none⟩ = some (.int .i64 y.q.2.1) ∧ V.cell? ⟨gb2, off2 + j * 13 + 10, none⟩ = some (.bool y.q.2.2.1) ∧ V.cell? ⟨gb2, off2 + j * 13 + 11, none⟩ = some (.bool y.q.2.2.2) ∧ V.cell? ⟨gb2, off2 + j * 13 + 12, none⟩ = some (.slice p2 l2 c2))) := fun V e => by
       have q := fun o => e.cell.1 gb o hgb
       have q2 := fun o => e.cell.1 gb2 o hgb2
       obtain ⟨qz, ⟨k0, k1, k2, k3, k4, k5, k6, k7, k8, k9, k10, k11, k12⟩, gz⟩ := HBX.out.1.ext e
       obtain ⟨qy, ⟨m0, m1, m2, m3, m4, m5, m6, m7, m8, m9, m10, m11, m12⟩, gy⟩ := HBX.out.2.ext e
       exact ⟨⟨k12, m12⟩, ⟨(q _).trans (hce 0 _ rfl), (q _).trans (hce 1 _ rfl), (q _).trans (hce 2 _ rfl), (q _).trans (hce 3 _ rfl), (q _).trans (hce 4 _ rfl), (q _).trans (hce 5 _ rfl), (q _).trans (hce 6 _ rfl), (q _).trans (hce 7 _ rfl), (q _).trans (hce 8 _ rfl), (q _).trans (hce 9 _ rfl), (q _).trans (hce 10 _ rfl), (q _).trans (hce 11 _ rfl), (q _).trans (hce 12 _ rfl)⟩, (q2 _).trans (hcf 0 _ rfl), (q2 _).trans (hcf 1 _ rfl), (q2 _).trans (hcf 2 _ rfl), (q2 _).trans (hcf 3 _ rfl), (q2 _).trans (hcf 4 _ rfl), (q2 _).trans (hcf 5 _ rfl), (q2 _).trans (hcf 6 _ rfl), (q2 _).trans (hcf 7 _ rfl), (q2 _).trans (hcf 8 _ rfl), (q2 _).trans (hcf 9 _ rfl), (q2 _).trans (hcf 10 _ rfl), (q2 _).trans (hcf 11 _ rfl), (q2 _).trans (hcf 12 _ rfl)⟩
     clear hI hJ hx1 hy1 hLx hLy hce hcf hcl hcl2 hl1 hl2
     go_wp2_with fail
     refine wp_region_held_drew (S := (fun V => (V.cell? ⟨W.heap.size, 12, none⟩ = some (.slice (some ⟨gb, off, none⟩) ln cl) ∧ V.cell? ⟨W.heap.size + 1, 12, none⟩ = some (.slice (some ⟨gb2, off2, none⟩) ln cm)) ∧ (V.cell? ⟨gb, off + j * 13, none⟩ = some (.int .i64 x.k) ∧ V.cell? ⟨gb, off + j * 13 + 1, none⟩ = some (.int .i64 x.n) ∧ V.cell? ⟨gb, off + j * 13 + 2, none⟩ = some (.string (bs x.s)) ∧ V.cell? ⟨gb, off + j * 13 + 3, none⟩ = some (.int .i64 x.e) ∧ V.cell? ⟨gb, off + j * 13 + 4, none⟩ = some (.int .i64 x.r.1) ∧ V.cell? ⟨gb, off + j * 13 + 5, none⟩ = some (.int .i64 x.r.2.1) ∧ V.cell? ⟨gb, off + j * 13 + 6, none⟩ = some (.bool x.r.2.2.1) ∧ V.cell? ⟨gb, off + j * 13 + 7, none⟩ = some (.bool x.r.2.2.2) ∧ V.cell? ⟨gb, off + j * 13 + 8, none⟩ = some (.int .i64 x.q.1) ∧ V.cell? ⟨gb, off + j * 13 + 9, none⟩ = some (.int .i64 x.q.2.1) ∧ V.cell? ⟨gb, off + j * 13 + 10, none⟩ = some (.bool x.q.2.2.1) ∧ V.cell? ⟨gb, off + j * 13 + 11, none⟩ = some (.bool x.q.2.2.2) ∧ V.cell? ⟨gb, off + j * 13 + 12, none⟩ = some (.slice p1 l1 c1)) ∧ (V.cell? ⟨gb2, off2 + j * 13, none⟩ = some (.int .i64 y.k) ∧ V.cell? ⟨gb2, off2 + j * 13 + 1, none⟩ = some (.int .i64 y.n) ∧ V.cell? ⟨gb2, off2 + j * 13 + 2, none⟩ = some (.string (bs y.s)) ∧ V.cell? ⟨gb2, off2 + j * 13 + 3, none⟩ = some (.int .i64 y.e) ∧ V.cell? ⟨gb2, off2 + j * 13 + 4, none⟩ = some (.int .i64 y.r.1) ∧ V.cell? ⟨gb2, off2 + j * 13 + 5, none⟩ = some (.int .i64 y.r.2.1) ∧ V.cell? ⟨gb2, off2 + j * 13 + 6, none⟩ = some (.bool y.r.2.2.1) ∧ V.cell? ⟨gb2, off2 + j * 13 + 7, none⟩ = some (.bool y.r.2.2.2) ∧ V.cell? ⟨gb2, off2 + j * 13 + 8, none⟩ = some (.int .i64 y.q.1) ∧ V.cell? ⟨gb2, off2 + j * 13 + 9, none⟩ = some (.int .i64 y.q.2.1) ∧ V.cell? ⟨gb2, off2 + j * 13 + 10, none⟩ = some (.bool y.q.2.2.1) ∧ V.cell? ⟨gb2, off2 + j * 13 + 11, none⟩ = some (.bool y.q.2.2.2) ∧ V.cell? ⟨gb2, off2 + j * 13 + 12, none⟩ = some (.slice p2 l2 c2)))) (by kernel_rfl) ?_ (fun hHeld0 => ?_)
     · (refine mkS.out _ ?_; ((with_reducible (repeat (first | assumption | exact Ext.refl _ | apply Ext.alloc | apply Ext.drew | apply Ext.drewN))); done))
     refine wpAnyH_take (i := 0) (oi := ⟨some 93, .fieldAddr 29 (.tmp 2) 6, 0, "ref.go:294", #[], none⟩) (v := ?_) rfl (by kernel_rfl) (by kernel_rfl) (by kernel_rfl) (fun _ _ _ h => h) (Or.inl ⟨by rfl, ?_⟩) (by assumption) ?_
     rotate_left
     · intro w hSw; (try dsimp only at hSw); first | (go_simp; done) | (go_simp; with_reducible rfl)
     try simp only [Act.put, List.setIfInBounds_toArray, List.set_cons_zero, List.set_cons_succ]
     refine wpAnyH_take (i := 1) (oi := ⟨some 94, .load 27 (.tmp 93), 27, "ref.go:294", #[⟨0, .data⟩], none⟩) (v := ?_) rfl (by kernel_rfl) (by kernel_rfl) (by kernel_rfl) (fun _ _ _ h => h) (Or.inl ⟨by rfl, ?_⟩) (by assumption) ?_
     rotate_left
     · intro w hSw; (try dsimp only at hSw); first | (go_simp; done) | (go_simp; with_reducible rfl)
     try simp only [Act.put, List.setIfInBounds_toArray, List.set_cons_zero, List.set_cons_succ]
     refine wpAnyH_take (i := 2) (oi := ⟨some 95, .move (.tmp 5), 3, "ref.go:294", #[], none⟩) (v := ?_) rfl (by kernel_rfl) (by kernel_rfl) (by kernel_rfl) (fun _ _ _ h => h) (Or.inl ⟨by rfl, ?_⟩) (by assumption) ?_
     rotate_left
     · intro w hSw; (try dsimp only at hSw); first | (go_simp; done) | (go_simp; with_reducible rfl)
     try simp only [Act.put, List.setIfInBounds_toArray, List.set_cons_zero, List.set_cons_succ]
     refine wpAnyH_take (i := 3) (oi := ⟨some 96, .indexAddr 27 (.tmp 94) (.tmp 95), 0, "ref.go:294", #[⟨1, .data⟩, ⟨2, .data⟩], none⟩) (v := ?_) rfl (by kernel_rfl) (by kernel_rfl) (by kernel_rfl) (fun _ _ _ h => h) (Or.inl ⟨by rfl, ?_⟩) (by assumption) ?_
     rotate_left
     · intro w hSw; (try dsimp only at hSw); first | (go_simp; done) | (go_simp; with_reducible rfl)
     try simp only [Act.put, List.setIfInBounds_toArray, List.set_cons_zero, List.set_cons_succ]
     refine wpAnyH_take (i := 4) (oi := ⟨some 97, .load 29 (.tmp 96), 29, "ref.go:294", #[⟨3, .data⟩], none⟩) (v := ?_) rfl (by kernel_rfl) (by kernel_rfl) (by kernel_rfl) (fun _ _ _ h => h) (Or.inl ⟨by rfl, ?_⟩) (by assumption) ?_
     rotate_left
     · intro w hSw; (try dsimp only at hSw); first | (go_simp; done) | (go_simp; with_reducible rfl)
     try simp only [Act.put, List.setIfInBounds_toArray, List.set_cons_zero, List.set_cons_succ]
     refine wpAnyH_take (i := 5) (oi := ⟨some 98, .fieldAddr 29 (.tmp 3) 6, 0, "ref.go:294", #[], none⟩) (v := ?_) rfl (by kernel_rfl) (by kernel_rfl) (by kernel_rfl) (fun _ _ _ h => h) (Or.inl ⟨by rfl, ?_⟩) (by assumption) ?_
     rotate_left
     · intro w hSw; (try dsimp only at hSw); first | (go_simp; done) | (go_simp; with_reducible rfl)
     try simp only [Act.put, List.setIfInBounds_toArray, List.set_cons_zero, List.set_cons_succ]
     refine wpAnyH_take (i := 6) (oi := ⟨some 99, .load 27 (.tmp 98), 27, "ref.go:294", #[⟨5, .data⟩], none⟩) (v := ?_) rfl (by kernel_rfl) (by kernel_rfl) (by kernel_rfl) (fun _ _ _ h => h) (Or.inl ⟨by rfl, ?_⟩) (by assumption) ?_
     rotate_left
     · intro w hSw; (try dsimp only at hSw); first | (go_simp; done) | (go_simp; with_reducible rfl)
     try simp only [Act.put, List.setIfInBounds_toArray, List.set_cons_zero, List.set_cons_succ]
     refine wpAnyH_take (i := 7) (oi := ⟨some 100, .move (.tmp 5), 3, "ref.go:294", #[], none⟩) (v := ?_) rfl (by kernel_rfl) (by kernel_rfl) (by kernel_rfl) (fun _ _ _ h => h) (Or.inl ⟨by rfl, ?_⟩) (by assumption) ?_
     rotate_left
     · intro w hSw; (try dsimp only at hSw); first | (go_simp; done) | (go_simp; with_reducible rfl)
     try simp only [Act.put, List.setIfInBounds_toArray, List.set_cons_zero, List.set_cons_succ]
     refine wpAnyH_take (i := 8) (oi := ⟨some 101, .indexAddr 27 (.tmp 99) (.tmp 100), 0, "ref.go:294", #[⟨6, .data⟩, ⟨7, .data⟩], none⟩) (v := ?_) rfl (by kernel_rfl) (by kernel_rfl) (by kernel_rfl) (fun _ _ _ h => h) (Or.inl ⟨by rfl, ?_⟩) (by assumption) ?_
     rotate_left
     · intro w hSw; (try dsimp only at hSw); first | (go_simp; done) | (go_simp; with_reducible rfl)
     try simp only [Act.put, List.setIfInBounds_toArray, List.set_cons_zero, List.set_cons_succ]
     refine wpAnyH_take (i := 9) (oi := ⟨some 102, .load 29 (.tmp 101), 29, "ref.go:294", #[⟨8, .data⟩], none⟩) (v := ?_) rfl (by kernel_rfl) (by kernel_rfl) (by kernel_rfl) (fun _ _ _ h => h) (Or.inl ⟨by rfl, ?_⟩) (by assumption) ?_
     rotate_left
     · intro w hSw; (try dsimp only at hSw); first | (go_simp; done) | (go_simp; with_reducible rfl)
     try simp only [Act.put, List.setIfInBounds_toArray, List.set_cons_zero, List.set_cons_succ]
     refine wpAnyH_ready (rs := [10]) (by kernel_rfl) (by simp) ?_
     refine AllReadyH.cons (o := ⟨some 103, .call { callee := .value (.func 7), args := #[.tmp 97, .tmp 102], argTypes := #[29, 29] }, 4, "ref.go:294", #[⟨4, .data⟩, ⟨9, .data⟩], none⟩) rfl (fun K hK => ?_) AllReadyH.nil
     go_simp
     (go_at_call 7; refine Calls.mono (HC.out _ (by with_reducible repeat (first | assumption | exact Ext.refl _ | apply Ext.alloc | apply Ext.drew | apply Ext.drewN))) ?_; rintro e w9 ⟨rfl, E9⟩; have X9 : Ext wr w9 := Ext.trans (by with_reducible repeat (first | assumption | exact Ext.refl _ | apply Ext.alloc | apply Ext.drew | apply Ext.drewN)) E9)
     try go_wp2_with fail
     refine hK.out _ _ ?_ (fun hHeld1 => ?_)
     · (try dsimp only); (refine mkS.out _ ?_; ((with_reducible (repeat (first | assumption | exact Ext.refl _ | apply Ext.alloc | apply Ext.drew | apply Ext.drewN))); done))
     clear hK K hHeld0
     try simp only [Act.put, List.setIfInBounds_toArray, List.set_cons_zero, List.set_cons_succ]
     refine wpAnyH_take (i := 11) (oi := ⟨some 104, .unOp .not 4 (.tmp 103), 4, "ref.go:294", #[⟨10, .data⟩], none⟩) (v := ?_) rfl (by kernel_rfl) (by kernel_rfl) (by kernel_rfl) (fun _ _ _ h => h) (Or.inl ⟨by rfl, ?_⟩) (by assumption) ?_
     rotate_left
     · intro w hSw; (try dsimp only at hSw); first | (go_simp; done) | (go_simp; with_reducible rfl)
     try simp only [Act.put, List.setIfInBounds_toArray, List.set_cons_zero, List.set_cons_succ]
     refine wpAnyH_done (by kernel_rfl) ?_ _
     have HE9 : Hid (Ext W w9 ∧ BlkX w9 W.heap.size a (.slice (some ⟨gb, off, none⟩) ln cl) ∧ BlkX w9 (W.heap.size + 1) b (.slice (some ⟨gb2, off2, none⟩) ln cm)) := ⟨HE.out.1.trans X9, HBX.out.1.ext X9, HBX.out.2.ext X9⟩
     clear E9 X9 k0 k1 k2 k3 k4 k5 k6 k7 k8 k9 k10 k11 k12 m0 m1 m2 m3 m4 m5 m6 m7 m8 m9 m10 m11 m12
     cases hgx : sameT n x y
     · have HR : Hid (allZ (sameT n) a.l b.l = false) := allZ_no _ _ _ j x y HX1.out.1 HX1.out.2 hgx
       clear hgx
       go_wp2_with fail
       go_ret
       exact ⟨ret_bool (by rw [HX.out, HR.out]), HE9.out.1⟩
     · have HR : Hid (allZ (sameT n) (a.l.take (j + 1)) (b.l.take (j + 1)) = true) := by show _ = _; rw [allZ_take _ _ _ j x y HX1.out.1 HX1.out.2, HE.out.2, hgx]; rfl
       clear hgx
       go_wp2_with fail
       go_roundw
       case rel => exact ⟨j + 1, by omega, by go_num, HR.out, HE9.out.2.1, HE9.out.2.2, HE9.out.1⟩
       case measure => show ln - ((j : Int) + 1).toNat < ln - ((j : Int)).toNat; omega
   · have hltI : ¬ (j : Int) < (ln : Int) := by omega
     have HR : Hid (allZ (sameT n) a.l b.l = true) := by
       show _ = _
       have := HE.out.2
       rw [List.take_of_length_le (by have := HLN.out.1; omega), List.take_of_length_le (by have := HLN.out.2; omega)] at this
       exact this
     go_wp2_with fail
     go_ret
     exact ⟨ret_bool (by rw [HX.out, HR.out]), HE.out.1⟩
set_option maxRecDepth 100000 in
theorem rsame_7 (P : Nat → Prop) (n : Nat) (a : T) (hk : a.k = 7) (hl : a.l.length ≤ 100000) (hx : ∀ x ∈ a.l, SmC 7 P n x) : SmC 7 P (n + 1) a := by
 intro b W pp qq ln cl lm cm hI hJ
 have hln : a.l.length = ln := by
   obtain ⟨p, c, h1, _⟩ := hI.form
   cases h1; rfl
 have hlm : b.l.length = lm := by
   obtain ⟨p, c, h1, _⟩ := hJ.form
   cases h1; rfl
 have hl2 : ln ≤ 100000 := by omega
 have e0 : (a.k == 0) = false := by rw [hk]; rfl
 have e1 : (a.k == 1) = false := by rw [hk]; rfl
 have e2 : (a.k == 2) = false := by rw [hk]; rfl
 have e3 : (a.k == 3) = false := by rw [hk]; rfl
 have e4 : (a.k == 4) = false := by rw [hk]; rfl
 have e5 : (a.k == 5) = false := by rw [hk]; rfl
 have e6 : (a.k != 6) = true := by rw [hk]; rfl
 have c1 := fun W => rparts_any a.k W
 rw [decide_eq_true (show a.k = 6 ∨ a.k = 7 ∨ a.k = 8 by omega)] at c1
 by_cases hnb : ¬ a.k = b.k
 · have hkb := hnb
   clear hnb
   have kn : (a.k != b.k) = true := by simpa using hkb
   have HX : Hid (sameT (n + 1) a b = false) := by show _ = _; unfold sameT; rw [if_pos hkb]
   clear hk hkb hI hJ hln hlm hl hx c1
   go_enter Tryz.func7, Tryz.ntmps7
   go_wp2_with fail
   go_ret
   exact ⟨ret_bool (by rw [HX.out]), ((Ext.refl _).alloc _).alloc _⟩
 have hkb : a.k = b.k := Decidable.not_not.1 hnb
 clear hnb
 have kn : (a.k != b.k) = false := by rw [hkb]; simp
 by_cases hns : ¬ a.s = b.s
 · have hs := hns
   clear hns
   have es : ((bs a.s).toList == (bs b.s).toList) = false := by rw [bs_tl9, bs_tl9]; simpa using hs
   have HX : Hid (sameT (n + 1) a b = false) := by show _ = _; unfold sameT; rw [if_neg (by rw [← hkb]; simp)]; simp [hk, hs]
   generalize bs a.s = qa at *
   generalize bs b.s = qb at *
   clear hk hkb hI hJ hln hlm hl hx hs
   go_enter Tryz.func7, Tryz.ntmps7
   go_wp2_with fail
   refine (c1 _).mono ?_
   rintro e w1 ⟨rfl, rfl⟩
   go_wp2_with fail
   go_ret
   exact ⟨ret_bool (by rw [HX.out]), ((Ext.refl _).alloc _).alloc _⟩
 have hs : a.s = b.s := Decidable.not_not.1 hns
 clear hns
 have es : ((bs a.s).toList == (bs b.s).toList) = true := by rw [bs_tl9, bs_tl9]; simpa using hs
 have HX : Hid (sameT (n + 1) a b = allZ (sameT n) a.l b.l) := by show _ = _; unfold sameT; rw [if_neg (by rw [← hkb]; simp)]; simp [hk, hs]
 by_cases hnl : ¬ ln = lm
 · have hll := hnl
   clear hnl
   have el : ((ln : Int) != (lm : Int)) = true := by simp; omega
   have HX : Hid (sameT (n + 1) a b = false) := by show _ = _; rw [HX.out]; exact allZ_len _ _ _ (by omega)
   clear hk hkb hI hJ hln hlm hl hx hll hs
   go_enter Tryz.func7, Tryz.ntmps7
   go_wp2_with fail
   refine (c1 _).mono ?_
   rintro e w1 ⟨rfl, rfl⟩
   go_wp2_with fail
   go_ret
   exact ⟨ret_bool (by rw [HX.out]), ((Ext.refl _).alloc _).alloc _⟩
 have hll : ln = lm := Decidable.not_not.1 hnl
 clear hnl
 have el : ((ln : Int) != (lm : Int)) = false := by simp; omega
 subst hll
 have ell : ((ln : Int) != (ln : Int)) = false := by simp
 have HI : Hid (IsL W P (.slice pp ln cl) a.l ∧ IsL W P (.slice qq ln cm) b.l) := ⟨hI, hJ⟩
 have HLN : Hid (a.l.length = ln ∧ b.l.length = ln) := ⟨hln, hlm⟩
 have HXX : Hid (∀ x ∈ a.l, SmC 7 P n x) := hx
 clear hk hkb hI hJ hln hlm hl hx hs
 go_enter Tryz.func7, Tryz.ntmps7
 go_wp2_with fail
 refine (c1 _).mono ?_
 rintro e w1 ⟨rfl, rfl⟩
 go_wp2_with fail
 go_loopw [5] (fun iv wr => ∃ j : Nat, j ≤ ln ∧ iv = .int .i64 (j : Int) ∧ allZ (sameT n) (a.l.take j) (b.l.take j) = true ∧ BlkX wr W.heap.size a (.slice pp ln cl) ∧ BlkX wr (W.heap.size + 1) b (.slice qq ln cm) ∧ Ext W wr) (fun iv _ => ln - (intOf iv).toNat)
 case atStart => exact ⟨0, Nat.zero_le _, rfl, rfl, blk13_top rfl ((Ext.refl _).alloc _), blk13_top (by simp) (Ext.refl _), ((Ext.refl _).alloc _).alloc _⟩
 case round =>
   obtain ⟨j, hj, rfl, hg, hB, hB2, hE⟩ := hrel
   have HE : Hid (Ext W wr ∧ allZ (sameT n) (a.l.take j) (b.l.take j) = true) := ⟨hE, hg⟩
   have HBX : Hid (BlkX wr W.heap.size a (.slice pp ln cl) ∧ BlkX wr (W.heap.size + 1) b (.slice qq ln cm)) := ⟨hB, hB2⟩
   obtain ⟨qz, ⟨k0, k1, k2, k3, k4, k5, k6, k7, k8, k9, k10, k11, k12⟩, gz⟩ := hB
   obtain ⟨qy, ⟨m0, m1, m2, m3, m4, m5, m6, m7, m8, m9, m10, m11, m12⟩, gy⟩ := hB2
   clear hE hg gz gy
   by_cases hlt : j < ln
   · have hltI : (j : Int) < (ln : Int) := by omega
     have hI := HI.out.1.ext HE.out.1
     have hJ := HI.out.2.ext HE.out.1
     obtain ⟨gb, off, x, lv, hpp, hx1, hA1, hgb, hA2, hLx, hce⟩ := hI.at (i := j) (by rw [HLN.out.1]; exact hlt)
     obtain ⟨gb2, off2, y, lv2, hqq, hy1, hA3, hgb2, hA4, hLy, hcf⟩ := hJ.at (i := j) (by rw [HLN.out.2]; exact hlt)
     clear hA1 hA2 hA3 hA4
     subst hpp hqq
     obtain ⟨p1, c1, hlv, hcl⟩ := hLx.form
     obtain ⟨l1, hl1⟩ : ∃ l1, x.l.length = l1 := ⟨_, rfl⟩
     rw [hl1] at hlv
     subst hlv
     obtain ⟨p2, c2, hlv2, hcl2⟩ := hLy.form
     obtain ⟨l2, hl2⟩ : ∃ l2, y.l.length = l2 := ⟨_, rfl⟩
     rw [hl2] at hlv2
     subst hlv2
     have HX1 : Hid (a.l[j]? = some x ∧ b.l[j]? = some y) := ⟨hx1, hy1⟩
     have HC : Hid (∀ V, Ext wr V → Calls Tryz.prog 7 #[.agg #[.int .i64 x.k, .int .i64 x.n, .string (bs x.s), .int .i64 x.e, .int .i64 x.r.1, .int .i64 x.r.2.1, .bool x.r.2.2.1, .bool x.r.2.2.2, .int .i64 x.q.1, .int .i64 x.q.2.1, .bool x.q.2.2.1, .bool x.q.2.2.2, .slice p1 l1 c1], .agg #[.int .i64 y.k, .int .i64 y.n, .string (bs y.s), .int .i64 y.e, .int .i64 y.r.1, .int .i64 y.r.2.1, .bool y.r.2.2.1, .bool y.r.2.2.2, .int .i64 y.q.1, .int .i64 y.q.2.1, .bool y.q.2.2.1, .bool y.q.2.2.2, .slice p2 l2 c2]] V fun e w' => e = .returned (.bool (sameT n x y)) ∧ Ext V w') := fun V e => HXX.out x (List.mem_of_getElem? hx1) y V p1 p2 l1 c1 l2 c2 (hLx.ext e) (hLy.ext e)
     have mkS : Hid (∀ V, Ext wr V → (V.cell? ⟨W.heap.size, 12, none⟩ = some (.slice (some ⟨gb, off, none⟩) ln cl) ∧ V.cell? ⟨W.heap.size + 1, 12, none⟩ = some (.slice (some ⟨gb2, off2, none⟩) ln cm)) ∧ (V.cell? ⟨gb, off + j * 13, none⟩ = some (.int .i64 x.k) ∧ V.cell? ⟨gb, off + j * 13 + 1, none⟩ = some (.int .i64 x.n) ∧ V.cell? ⟨gb, off + j * 13 + 2, none⟩ = some (.string (bs x.s)) ∧ V.cell? ⟨gb, off + j * 13 + 3, none⟩ = some (.int .i64 x.e) ∧ V.cell? ⟨gb, off + j * 13 + 4, none⟩ = some (.int .i64 x.r.1) ∧ V.cell? ⟨gb, off + j * 13 + 5, none⟩ = some (.int .i64 x.r.2.1) ∧ V.cell? ⟨gb, off + j * 13 + 6, none⟩ = some (.bool x.r.2.2.1) ∧ V.cell? ⟨gb, off + j * 13 + 7, none⟩ = some (.bool x.r.2.2.2) ∧ V.cell? ⟨gb, off + j * 13 + 8, none⟩ = some (.int .i64 x.q.1) ∧ V.cell? ⟨gb, off + j * 13 + 9, none⟩ = some (.int .i64 x.q.2.1) ∧ V.cell? ⟨gb, off + j * 13 + 10, none⟩ = some (.bool x.q.2.2.1) ∧ V.cell? ⟨gb, off + j * 13 + 11, none⟩ = some (.bool x.q.2.2.2) ∧ V.cell? ⟨gb, off + j * 13 + 12, none⟩ = some (.slice p1 l1 c1)) ∧ (V.cell? ⟨gb2, off2 + j * 13, none⟩ = some (.int .i64 y.k) ∧ V.cell? ⟨gb2, off2 + j * 13 + 1, none⟩ = some (.int .i64 y.n) ∧ V.cell? ⟨gb2, off2 + j * 13 + 2, none⟩ = some (.string (bs y.s)) ∧ V.cell? ⟨gb2, off2 + j * 13 + 3, none⟩ = some (.int .i64 y.e) ∧ V.cell? ⟨gb2, off2 + j * 13 + 4, none⟩ = some (.int .i64 y.r.1) ∧ V.cell? ⟨gb2, off2 + j * 13 + 5, none⟩ = some (.int .i64 y.r.2.1) ∧ V.cell? ⟨gb2, off2 + j * 13 + 6, none⟩ = some (.bool y.r.2.2.1) ∧ V.cell? ⟨gb2, off2 + j * 13 + 7, none⟩ = some (.bool y.r.2.2.2) ∧ V.cell? ⟨gb2, off2 + j * 13 + 8, none⟩ = some (.int .i64 y.q.1) ∧ V.cell? ⟨gb2, off2 + j * 13 + 9, none⟩ = some (.int .i64 y.q.2.1) ∧ V.cell? ⟨gb2, off2 + j * 13 + 10, none⟩ = some (.bool y.q.2.2.1) ∧ V.cell? ⟨gb2, off2 + j * 13 + 11, none⟩ = some (.bool y.q.2.2.2) ∧ V.cell? ⟨gb2, off2 + j * 13 + 12, none⟩ = some (.slice p2 l2 c2))) := fun V e => by
       have q := fun o => e.cell.1 gb o hgb
       have q2 := fun o => e.cell.1 gb2 o hgb2
       obtain ⟨qz, ⟨k0, k1, k2, k3, k4, k5, k6, k7, k8, k9, k10, k11, k12⟩, gz⟩ := HBX.out.1.ext e
       obtain ⟨qy, ⟨m0, m1, m2, m3, m4, m5, m6, m7, m8, m9, m10, m11, m12⟩, gy⟩ := HBX.out.2.ext e
       exact ⟨⟨k12, m12⟩, ⟨(q _).trans (hce 0 _ rfl), (q _).trans (hce 1 _ rfl), (q _).trans (hce 2 _ rfl), (q _).trans (hce 3 _ rfl), (q _).trans (hce 4 _ rfl), (q _).trans (hce 5 _ rfl), (q _).trans (hce 6 _ rfl), (q _).trans (hce 7 _ rfl), (q _).trans (hce 8 _ rfl), (q _).trans (hce 9 _ rfl), (q _).trans (hce 10 _ rfl), (q _).trans (hce 11 _ rfl), (q _).trans (hce 12 _ rfl)⟩, (q2 _).trans (hcf 0 _ rfl), (q2 _).trans (hcf 1 _ rfl), (q2 _).trans (hcf 2 _ rfl), (q2 _).trans (hcf 3 _ rfl), (q2 _).trans (hcf 4 _ rfl), (q2 _).trans (hcf 5 _ rfl), (q2 _).trans (hcf 6 _ rfl), (q2 _).trans (hcf 7 _ rfl), (q2 _).trans (hcf 8 _ rfl), (q2 _).trans (hcf 9 _ rfl), (q2 _).trans (hcf 10 _ rfl), (q2 _).trans (hcf 11 _ rfl), (q2 _).trans (hcf 12 _ rfl)⟩
     clear hI hJ hx1 hy1 hLx hLy hce hcf hcl hcl2 hl1 hl2
     go_wp2_with fail
     refine wp_region_held_drew (S := (fun V => (V.cell? ⟨W.heap.size, 12, none⟩ = some (.slice (some ⟨gb, off, none⟩) ln cl) ∧ V.cell? ⟨W.heap.size + 1, 12, none⟩ = some (.slice (some ⟨gb2, off2, none⟩) ln cm)) ∧ (V.cell? ⟨gb, off + j * 13, none⟩ = some (.int .i64 x.k) ∧ V.cell? ⟨gb, off + j * 13 + 1, none⟩ = some (.int .i64 x.n) ∧ V.cell? ⟨gb, off + j * 13 + 2, none⟩ = some (.string (bs x.s)) ∧ V.cell? ⟨gb, off + j * 13 + 3, none⟩ = some (.int .i64 x.e) ∧ V.cell? ⟨gb, off + j * 13 + 4, none⟩ = some (.int .i64 x.r.1) ∧ V.cell? ⟨gb, off + j * 13 + 5, none⟩ = some (.int .i64 x.r.2.1) ∧ V.cell? ⟨gb, off + j * 13 + 6, none⟩ = some (.bool x.r.2.2.1) ∧ V.cell? ⟨gb, off + j * 13 + 7, none⟩ = some (.bool x.r.2.2.2) ∧ V.cell? ⟨gb, off + j * 13 + 8, none⟩ = some (.int .i64 x.q.1) ∧ V.cell? ⟨gb, off + j * 13 + 9, none⟩ = some (.int .i64 x.q.2.1) ∧ V.cell? ⟨gb, off + j * 13 + 10, none⟩ = some (.bool x.q.2.2.1) ∧ V.cell? ⟨gb, off + j * 13 + 11, none⟩ = some (.bool x.q.2.2.2) ∧ V.cell? ⟨gb, off + j * 13 + 12, none⟩ = some (.slice p1 l1 c1)) ∧ (V.cell? ⟨gb2, off2 + j * 13, none⟩ = some (.int .i64 y.k) ∧ V.cell? ⟨gb2, off2 + j * 13 + 1, none⟩ = some (.int .i64 y.n) ∧ V.cell? ⟨gb2, off2 + j * 13 + 2, none⟩ = some (.string (bs y.s)) ∧ V.cell? ⟨gb2, off2 + j * 13 + 3, none⟩ = some (.int .i64 y.e) ∧ V.cell? ⟨gb2, off2 + j * 13 + 4, none⟩ = some (.int .i64 y.r.1) ∧ V.cell? ⟨gb2, off2 + j * 13 + 5, none⟩ = some (.int .i64 y.r.2.1) ∧ V.cell? ⟨gb2, off2 + j * 13 + 6, none⟩ = some (.bool y.r.2.2.1) ∧ V.cell? ⟨gb2, off2 + j * 13 + 7, none⟩ = some (.bool y.r.2.2.2) ∧ V.cell? ⟨gb2, off2 + j * 13 + 8, none⟩ = some (.int .i64 y.q.1) ∧ V.cell? ⟨gb2, off2 + j * 13 + 9, none⟩ = some (.int .i64 y.q.2.1) ∧ V.cell? ⟨gb2, off2 + j * 13 + 10, none⟩ = some (.bool y.q.2.2.1) ∧ V.cell? ⟨gb2, off2 + j * 13 + 11, none⟩ = some (.bool y.q.2.2.2) ∧ V.cell? ⟨gb2, off2 + j * 13 + 12, none⟩ = some (.slice p2 l2 c2)))) (by kernel_rfl) ?_ (fun hHeld0 => ?_)
     · (refine mkS.out _ ?_; ((with_reducible (repeat (first | assumption | exact Ext.refl _ | apply Ext.alloc | apply Ext.drew | apply Ext.drewN))); done))
     refine wpAnyH_take (i := 0) (oi := ⟨some 93, .fieldAddr 29 (.tmp 2) 6, 0, "ref.go:294", #[], none⟩) (v := ?_) rfl (by kernel_rfl) (by kernel_rfl) (by kernel_rfl) (fun _ _ _ h => h) (Or.inl ⟨by rfl, ?_⟩) (by assumption) ?_
     rotate_left
     · intro w hSw; (try dsimp only at hSw); first | (go_simp; done) | (go_simp; with_reducible rfl)
     try simp only [Act.put, List.setIfInBounds_toArray, List.set_cons_zero, List.set_cons_succ]
     refine wpAnyH_take (i := 1) (oi := ⟨some 94, .load 27 (.tmp 93), 27, "ref.go:294", #[⟨0, .data⟩], none⟩) (v := ?_) rfl (by kernel_rfl) (by kernel_rfl) (by kernel_rfl) (fun _ _ _ h => h) (Or.inl ⟨by rfl, ?_⟩) (by assumption) ?_
     rotate_left
     · intro w hSw; (try dsimp only at hSw); first | (go_simp; done) | (go_simp; with_reducible rfl)
     try simp only [Act.put, List.setIfInBounds_toArray, List.set_cons_zero, List.set_cons_succ]
     refine wpAnyH_take (i := 2) (oi := ⟨some 95, .move (.tmp 5), 3, "ref.go:294", #[], none⟩) (v := ?_) rfl (by kernel_rfl) (by kernel_rfl) (by kernel_rfl) (fun _ _ _ h => h) (Or.inl ⟨by rfl, ?_⟩) (by assumption) ?_
     rotate_left
     · intro w hSw; (try dsimp only at hSw); first | (go_simp; done) | (go_simp; with_reducible rfl)
     try simp only [Act.put, List.setIfInBounds_toArray, List.set_cons_zero, List.set_cons_succ]
     refine wpAnyH_take (i := 3) (oi := ⟨some 96, .indexAddr 27 (.tmp 94) (.tmp 95), 0, "ref.go:294", #[⟨1, .data⟩, ⟨2, .data⟩], none⟩) (v := ?_) rfl (by kernel_rfl) (by kernel_rfl) (by kernel_rfl) (fun _ _ _ h => h) (Or.inl ⟨by rfl, ?_⟩) (by assumption) ?_
     rotate_left
     · intro w hSw; (try dsimp only at hSw); first | (go_simp; done) | (go_simp; with_reducible rfl)
     try simp only [Act.put, List.setIfInBounds_toArray, List.set_cons_zero, List.set_cons_succ]
     refine wpAnyH_take (i := 4) (oi := ⟨some 97, .load 29 (.tmp 96), 29, "ref.go:294", #[⟨3, .data⟩], none⟩) (v := ?_) rfl (by kernel_rfl) (by kernel_rfl) (by kernel_rfl) (fun _ _ _ h => h) (Or.inl ⟨by rfl, ?_⟩) (by assumption) ?_
     rotate_left
     · intro w hSw; (try dsimp only at hSw); first | (go_simp; done) | (go_simp; with_reducible rfl)
     try simp only [Act.put, List.setIfInBounds_toArray, List.set_cons_zero, List.set_cons_succ]
     refine wpAnyH_take (i := 5) (oi := ⟨some 98, .fieldAddr 29 (.tmp 3) 6, 0, "ref.go:294", #[], none⟩) (v := ?_) rfl (by kernel_rfl) (by kernel_rfl) (by kernel_rfl) (fun _ _ _ h => h) (Or.inl ⟨by rfl, ?_⟩) (by assumption) ?_
     rotate_left
     · intro w hSw; (try dsimp only at hSw); first | (go_simp; done) | (go_simp; with_reducible rfl)
     try simp only [Act.put, List.setIfInBounds_toArray, List.set_cons_zero, List.set_cons_succ]
     refine wpAnyH_take (i := 6) (oi := ⟨some 99, .load 27 (.tmp 98), 27, "ref.go:294", #[⟨5, .data⟩], none⟩) (v := ?_) rfl (by kernel_rfl) (by kernel_rfl) (by kernel_rfl) (fun _ _ _ h => h) (Or.inl ⟨by rfl, ?_⟩) (by assumption) ?_
     rotate_left
     · intro w hSw; (try dsimp only at hSw); first | (go_simp; done) | (go_simp; with_reducible rfl)
     try simp only [Act.put, List.setIfInBounds_toArray, List.set_cons_zero, List.set_cons_succ]
     refine wpAnyH_take (i := 7) (oi := ⟨some 100, .move (.tmp 5), 3, "ref.go:294", #[], none⟩) (v := ?_) rfl (by kernel_rfl) (by kernel_rfl) (by kernel_rfl) (fun _ _ _ h => h) (Or.inl ⟨by rfl, ?_⟩) (by assumption) ?_
     rotate_left
     · intro w hSw; (try dsimp only at hSw); first | (go_simp; done) | (go_simp; with_reducible rfl)
     try simp only [Act.put, List.setIfInBounds_toArray, List.set_cons_zero, List.set_cons_succ]
     refine wpAnyH_take (i := 8) (oi := ⟨some 101, .indexAddr 27 (.tmp 99) (.tmp 100), 0, "ref.go:294", #[⟨6, .data⟩, ⟨7, .data⟩], none⟩) (v := ?_) rfl (by kernel_rfl) (by kernel_rfl) (by kernel_rfl) (fun _ _ _ h => h) (Or.inl ⟨by rfl, ?_⟩) (by assumption) ?_
     rotate_left
     · intro w hSw; (try dsimp only at hSw); first | (go_simp; done) | (go_simp; with_reducible rfl)
     try simp only [Act.put, List.setIfInBounds_toArray, List.set_cons_zero, List.set_cons_succ]
     refine wpAnyH_take (i := 9) (oi := ⟨some 102, .load 29 (.tmp 101), 29, "ref.go:294", #[⟨8, .data⟩], none⟩) (v := ?_) rfl (by kernel_rfl) (by kernel_rfl) (by kernel_rfl) (fun _ _ _ h => h) (Or.inl ⟨by rfl, ?_⟩) (by assumption) ?_
     rotate_left
     · intro w hSw; (try dsimp only at hSw); first | (go_simp; done) | (go_simp; with_reducible rfl)
     try simp only [Act.put, List.setIfInBounds_toArray, List.set_cons_zero, List.set_cons_succ]
     refine wpAnyH_ready (rs := [10]) (by kernel_rfl) (by simp) ?_
     refine AllReadyH.cons (o := ⟨some 103, .call { callee := .value (.func 7), args := #[.tmp 97, .tmp 102], argTypes := #[29, 29] }, 4, "ref.go:294", #[⟨4, .data⟩, ⟨9, .data⟩], none⟩) rfl (fun K hK => ?_) AllReadyH.nil
     go_simp
     (go_at_call 7; refine Calls.mono (HC.out _ (by with_reducible repeat (first | assumption | exact Ext.refl _ | apply Ext.alloc | apply Ext.drew | apply Ext.drewN))) ?_; rintro e w9 ⟨rfl, E9⟩; have X9 : Ext wr w9 := Ext.trans (by with_reducible repeat (first | assumption | exact Ext.refl _ | apply Ext.alloc | apply Ext.drew | apply Ext.drewN)) E9)
     try go_wp2_with fail
     refine hK.out _ _ ?_ (fun hHeld1 => ?_)
     · (try dsimp only); (refine mkS.out _ ?_; ((with_reducible (repeat (first | assumption | exact Ext.refl _ | apply Ext.alloc | apply Ext.drew | apply Ext.drewN))); done))
     clear hK K hHeld0
     try simp only [Act.put, List.setIfInBounds_toArray, List.set_cons_zero, List.set_cons_succ]
     refine wpAnyH_take (i := 11) (oi := ⟨some 104, .unOp .not 4 (.tmp 103), 4, "ref.go:294", #[⟨10, .data⟩], none⟩) (v := ?_) rfl (by kernel_rfl) (by kernel_rfl) (by kernel_rfl) (fun _ _ _ h => h) (Or.inl ⟨by rfl, ?_⟩) (by assumption) ?_
     rotate_left
     · intro w hSw; (try dsimp only at hSw); first | (go_simp; done) | (go_simp; with_reducible rfl)
     try simp only [Act.put, List.setIfInBounds_toArray, List.set_cons_zero, List.set_cons_succ]
     refine wpAnyH_done (by kernel_rfl) ?_ _
     have HE9 : Hid (Ext W w9 ∧ BlkX w9 W.heap.size a (.slice (some ⟨gb, off, none⟩) ln cl) ∧ BlkX w9 (W.heap.size + 1) b (.slice (some ⟨gb2, off2, none⟩) ln cm)) := ⟨HE.out.1.trans X9, HBX.out.1.ext X9, HBX.out.2.ext X9⟩
     clear E9 X9 k0 k1 k2 k3 k4 k5 k6 k7 k8 k9 k10 k11 k12 m0 m1 m2 m3 m4 m5 m6 m7 m8 m9 m10 m11 m12
     cases hgx : sameT n x y
     · have HR : Hid (allZ (sameT n) a.l b.l = false) := allZ_no _ _ _ j x y HX1.out.1 HX1.out.2 hgx
       clear hgx
       go_wp2_with fail
       go_ret
       exact ⟨ret_bool (by rw [HX.out, HR.out]), HE9.out.1⟩
     · have HR : Hid (allZ (sameT n) (a.l.take (j + 1)) (b.l.take (j + 1)) = true) := by show _ = _; rw [allZ_take _ _ _ j x y HX1.out.1 HX1.out.2, HE.out.2, hgx]; rfl
       clear hgx
       go_wp2_with fail
       go_roundw
       case rel => exact ⟨j + 1, by omega, by go_num, HR.out, HE9.out.2.1, HE9.out.2.2, HE9.out.1⟩
       case measure => show ln - ((j : Int) + 1).toNat < ln - ((j : Int)).toNat; omega
   · have hltI : ¬ (j : Int) < (ln : Int) := by omega
     have HR : Hid (allZ (sameT n) a.l b.l = true) := by
       show _ = _
       have := HE.out.2
       rw [List.take_of_length_le (by have := HLN.out.1; omega), List.take_of_length_le (by have := HLN.out.2; omega)] at this
       exact this
     go_wp2_with fail
     go_ret
     exact ⟨ret_bool (by rw [HX.out, HR.out]), HE.out.1⟩
set_option maxRecDepth 100000 in
theorem rsame_8 (P : Nat → Prop) (n : Nat) (a : T) (hk : a.k = 8) (hl : a.l.length ≤ 100000) (hx : ∀ x ∈ a.l, SmC 7 P n x) : SmC 7 P (n + 1) a := by
 intro b W pp qq ln cl lm cm hI hJ
 have hln : a.l.length = ln := by
   obtain ⟨p, c, h1, _⟩ := hI.form
   cases h1; rfl
 have hlm : b.l.length = lm := by
   obtain ⟨p, c, h1, _⟩ := hJ.form
   cases h1; rfl
 have hl2 : ln ≤ 100000 := by omega
 have e0 : (a.k == 0) = false := by rw [hk]; rfl
 have e1 : (a.k == 1) = false := by rw [hk]; rfl
 have e2 : (a.k == 2) = false := by rw [hk]; rfl
 have e3 : (a.k == 3) = false := by rw [hk]; rfl
 have e4 : (a.k == 4) = false := by rw [hk]; rfl
 have e5 : (a.k == 5) = false := by rw [hk]; rfl
 have e6 : (a.k != 6) = true := by rw [hk]; rfl
 have c1 := fun W => rparts_any a.k W
 rw [decide_eq_true (show a.k = 6 ∨ a.k = 7 ∨ a.k = 8 by omega)] at c1
 by_cases hnb : ¬ a.k = b.k
 · have hkb := hnb
   clear hnb
   have kn : (a.k != b.k) = true := by simpa using hkb
   have HX : Hid (sameT (n + 1) a b = false) := by show _ = _; unfold sameT; rw [if_pos hkb]
   clear hk hkb hI hJ hln hlm hl hx c1
   go_enter Tryz.func7, Tryz.ntmps7
   go_wp2_with fail
   go_ret
   exact ⟨ret_bool (by rw [HX.out]), ((Ext.refl _).alloc _).alloc _⟩
 have hkb : a.k = b.k := Decidable.not_not.1 hnb
 clear hnb
 have kn : (a.k != b.k) = false := by rw [hkb]; simp
 by_cases hns : ¬ a.s = b.s
 · have hs := hns
   clear hns
   have es : ((bs a.s).toList == (bs b.s).toList) = false := by rw [bs_tl9, bs_tl9]; simpa using hs
   have HX : Hid (sameT (n + 1) a b = false) := by show _ = _; unfold sameT; rw [if_neg (by rw [← hkb]; simp)]; simp [hk, hs]
   generalize bs a.s = qa at *
   generalize bs b.s = qb at *
   clear hk hkb hI hJ hln hlm hl hx hs
   go_enter Tryz.func7, Tryz.ntmps7
   go_wp2_with fail
   refine (c1 _).mono ?_
   rintro e w1 ⟨rfl, rfl⟩
   go_wp2_with fail
   go_ret
   exact ⟨ret_bool (by rw [HX.out]), ((Ext.refl _).alloc _).alloc _⟩
 have hs : a.s = b.s := Decidable.not_not.1 hns
 clear hns
 have es : ((bs a.s).toList == (bs b.s).toList) = true := by rw [bs_tl9, bs_tl9]; simpa using hs
 have HX : Hid (sameT (n + 1) a b = allZ (sameT n) a.l b.l) := by show _ = _; unfold sameT; rw [if_neg (by rw [← hkb]; simp)]; simp [hk, hs]
 by_cases hnl : ¬ ln = lm
 · have hll := hnl
   clear hnl
   have el : ((ln : Int) != (lm : Int)) = true := by simp; omega
   have HX : Hid (sameT (n + 1) a b = false) := by show _ = _; rw [HX.out]; exact allZ_len _ _ _ (by omega)
   clear hk hkb hI hJ hln hlm hl hx hll hs
   go_enter Tryz.func7, Tryz.ntmps7
   go_wp2_with fail
   refine (c1 _).mono ?_
   rintro e w1 ⟨rfl, rfl⟩
   go_wp2_with fail
   go_ret
   exact ⟨ret_bool (by rw [HX.out]), ((Ext.refl _).alloc _).alloc _⟩
 have hll : ln = lm := Decidable.not_not.1 hnl
 clear hnl
 have el : ((ln : Int) != (lm : Int)) = false := by simp; omega
 subst hll
 have ell : ((ln : Int) != (ln : Int)) = false := by simp
 have HI : Hid (IsL W P (.slice pp ln cl) a.l ∧ IsL W P (.slice qq ln cm) b.l) := ⟨hI, hJ⟩
 have HLN : Hid (a.l.length = ln ∧ b.l.length = ln) := ⟨hln, hlm⟩
 have HXX : Hid (∀ x ∈ a.l, SmC 7 P n x) := hx
 clear hk hkb hI hJ hln hlm hl hx hs
 go_enter Tryz.func7, Tryz.ntmps7
 go_wp2_with fail
 refine (c1 _).mono ?_
 rintro e w1 ⟨rfl, rfl⟩
 go_wp2_with fail
 go_loopw [5] (fun iv wr => ∃ j : Nat, j ≤ ln ∧ iv = .int .i64 (j : Int) ∧ allZ (sameT n) (a.l.take j) (b.l.take j) = true ∧ BlkX wr W.heap.size a (.slice pp ln cl) ∧ BlkX wr (W.heap.size + 1) b (.slice qq ln cm) ∧ Ext W wr) (fun iv _ => ln - (intOf iv).toNat)
 case atStart => exact ⟨0, Nat.zero_le _, rfl, rfl, blk13_top rfl ((Ext.refl _).alloc _), blk13_top (by simp) (Ext.refl _), ((Ext.refl _).alloc _).alloc _⟩
 case round =>
   obtain ⟨j, hj, rfl, hg, hB, hB2, hE⟩ := hrel
   have HE : Hid (Ext W wr ∧ allZ (sameT n) (a.l.take j) (b.l.take j) = true) := ⟨hE, hg⟩
   have HBX : Hid (BlkX wr W.heap.size a (.slice pp ln cl) ∧ BlkX wr (W.heap.size + 1) b (.slice qq ln cm)) := ⟨hB, hB2⟩
   obtain ⟨qz, ⟨k0, k1, k2, k3, k4, k5, k6, k7, k8, k9, k10, k11, k12⟩, gz⟩ := hB
   obtain ⟨qy, ⟨m0, m1, m2, m3, m4, m5, m6, m7, m8, m9, m10, m11, m12⟩, gy⟩ := hB2
   clear hE hg gz gy
   by_cases hlt : j < ln
   · have hltI : (j : Int) < (ln : Int) := by omega
     have hI := HI.out.1.ext HE.out.1
     have hJ := HI.out.2.ext HE.out.1
     obtain ⟨gb, off, x, lv, hpp, hx1, hA1, hgb, hA2, hLx, hce⟩ := hI.at (i := j) (by rw [HLN.out.1]; exact hlt)
     obtain ⟨gb2, off2, y, lv2, hqq, hy1, hA3, hgb2, hA4, hLy, hcf⟩ := hJ.at (i := j) (by rw [HLN.out.2]; exact hlt)
     clear hA1 hA2 hA3 hA4
     subst hpp hqq
     obtain ⟨p1, c1, hlv, hcl⟩ := hLx.form
     obtain ⟨l1, hl1⟩ : ∃ l1, x.l.length = l1 := ⟨_, rfl⟩
     rw [hl1] at hlv
     subst hlv
     obtain ⟨p2, c2, hlv2, hcl2⟩ := hLy.form
     obtain ⟨l2, hl2⟩ : ∃ l2, y.l.length = l2 := ⟨_, rfl⟩
     rw [hl2] at hlv2
     subst hlv2
     have HX1 : Hid (a.l[j]? = some x ∧ b.l[j]? = some y) := ⟨hx1, hy1⟩
     have HC : Hid (∀ V, Ext wr V → Calls Tryz.prog 7 #[.agg #[.int .i64 x.k, .int .i64 x.n, .string (bs x.s), .int .i64 x.e, .int .i64 x.r.1, .int .i64 x.r.2.1, .bool x.r.2.2.1, .bool x.r.2.2.2, .int .i64 x.q.1, .int .i64 x.q.2.1, .bool x.q.2.2.1, .bool x.q.2.2.2, .slice p1 l1 c1], .agg #[.int .i64 y.k, .int .i64 y.n, .string (bs y.s), .int .i64 y.e, .int .i64 y.r.1, .int .i64 y.r.2.1, .bool y.r.2.2.1, .bool y.r.2.2.2, .int .i64 y.q.1, .int .i64 y.q.2.1, .bool y.q.2.2.1, .bool y.q.2.2.2, .slice p2 l2 c2]] V fun e w' => e = .returned (.bool (sameT n x y)) ∧ Ext V w') := fun V e => HXX.out x (List.mem_of_getElem? hx1) y V p1 p2 l1 c1 l2 c2 (hLx.ext e) (hLy.ext e)
     have mkS : Hid (∀ V, Ext wr V → (V.cell? ⟨W.heap.size, 12, none⟩ = some (.slice (some ⟨gb, off, none⟩) ln cl) ∧ V.cell? ⟨W.heap.size + 1, 12, none⟩ = some (.slice (some ⟨gb2, off2, none⟩) ln cm)) ∧ (V.cell? ⟨gb, off + j * 13, none⟩ = some (.int .i64 x.k) ∧ V.cell? ⟨gb, off + j * 13 + 1, none⟩ = some (.int .i64 x.n) ∧ V.cell? ⟨gb, off + j * 13 + 2, none⟩ = some (.string (bs x.s)) ∧ V.cell? ⟨gb, off + j * 13 + 3, none⟩ = some (.int .i64 x.e) ∧ V.cell? ⟨gb, off + j * 13 + 4, none⟩ = some (.int .i64 x.r.1) ∧ V.cell? ⟨gb, off + j * 13 + 5, none⟩ = some (.int .i64 x.r.2.1) ∧ V.cell? ⟨gb, off + j * 13 + 6, none⟩ = some (.bool x.r.2.2.1) ∧ V.cell? ⟨gb, off + j * 13 + 7, none⟩ = some (.bool x.r.2.2.2) ∧ V.cell? ⟨gb, off + j * 13 + 8, none⟩ = some (.int .i64 x.q.1) ∧ V.cell? ⟨gb, off + j * 13 + 9, none⟩ = some (.int .i64 x.q.2.1) ∧ V.cell? ⟨gb, off + j * 13 + 10, none⟩ = some (.bool x.q.2.2.1) ∧ V.cell? ⟨gb, off + j * 13 + 11, none⟩ = some (.bool x.q.2.2.2) ∧ V.cell? ⟨gb, off + j * 13 + 12, none⟩ = some (.slice p1 l1 c1)) ∧ (V.cell? ⟨gb2, off2 + j * 13, none⟩ = some (.int .i64 y.k) ∧ V.cell? ⟨gb2, off2 + j * 13 + 1, none⟩ = some (.int .i64 y.n) ∧ V.cell? ⟨gb2, off2 + j * 13 + 2, none⟩ = some (.string (bs y.s)) ∧ V.cell? ⟨gb2, off2 + j * 13 + 3, none⟩ = some (.int .i64 y.e) ∧ V.cell? ⟨gb2, off2 + j * 13 + 4, none⟩ = some (.int .i64 y.r.1) ∧ V.cell? ⟨gb2, off2 + j * 13 + 5, none⟩ = some (.int .i64 y.r.2.1) ∧ V.cell? ⟨gb2, off2 + j * 13 + 6, none⟩ = some (.bool y.r.2.2.1) ∧ V.cell? ⟨gb2, off2 + j * 13 + 7, none⟩ = some (.bool y.r.2.2.2) ∧ V.cell? ⟨gb2, off2 + j * 13 + 8, none⟩ = some (.int .i64 y.q.1) ∧ V.cell? ⟨gb2, off2 + j * 13 + 9, none⟩ = some (.int .i64 y.q.2.1) ∧ V.cell? ⟨gb2, off2 + j * 13 + 10, none⟩ = some (.bool y.q.2.2.1) ∧ V.cell? ⟨gb2, off2 + j * 13 + 11, none⟩ = some (.bool y.q.2.2.2) ∧ V.cell? ⟨gb2, off2 + j * 13 + 12, none⟩ = some (.slice p2 l2 c2))) := fun V e => by
       have q := fun o => e.cell.1 gb o hgb
       have q2 := fun o => e.cell.1 gb2 o hgb2
       obtain ⟨qz, ⟨k0, k1, k2, k3, k4, k5, k6, k7, k8, k9, k10, k11, k12⟩, gz⟩ := HBX.out.1.ext e
       obtain ⟨qy, ⟨m0, m1, m2, m3, m4, m5, m6, m7, m8, m9, m10, m11, m12⟩, gy⟩ := HBX.out.2.ext e
       exact ⟨⟨k12, m12⟩, ⟨(q _).trans (hce 0 _ rfl), (q _).trans (hce 1 _ rfl), (q _).trans (hce 2 _ rfl), (q _).trans (hce 3 _ rfl), (q _).trans (hce 4 _ rfl), (q _).trans (hce 5 _ rfl), (q _).trans (hce 6 _ rfl), (q _).trans (hce 7 _ rfl), (q _).trans (hce 8 _ rfl), (q _).trans (hce 9 _ rfl), (q _).trans (hce 10 _ rfl), (q _).trans (hce 11 _ rfl), (q _).trans (hce 12 _ rfl)⟩, (q2 _).trans (hcf 0 _ rfl), (q2 _).trans (hcf 1 _ rfl), (q2 _).trans (hcf 2 _ rfl), (q2 _).trans (hcf 3 _ rfl), (q2 _).trans (hcf 4 _ rfl), (q2 _).trans (hcf 5 _ rfl), (q2 _).trans (hcf 6 _ rfl), (q2 _).trans (hcf 7 _ rfl), (q2 _).trans (hcf 8 _ rfl), (q2 _).trans (hcf 9 _ rfl), (q2 _).trans (hcf 10 _ rfl), (q2 _).trans (hcf 11 _ rfl), (q2 _).trans (hcf 12 _ rfl)⟩
     clear hI hJ hx1 hy1 hLx hLy hce hcf hcl hcl2 hl1 hl2
     go_wp2_with fail
     refine wp_region_held_drew (S := (fun V => (V.cell? ⟨W.heap.size, 12, none⟩ = some (.slice (some ⟨gb, off, none⟩) ln cl) ∧ V.cell? ⟨W.heap.size + 1, 12, none⟩ = some (.slice (some ⟨gb2, off2, none⟩) ln cm)) ∧ (V.cell? ⟨gb, off + j * 13, none⟩ = some (.int .i64 x.k) ∧ V.cell? ⟨gb, off + j * 13 + 1, none⟩ = some (.int .i64 x.n) ∧ V.cell? ⟨gb, off + j * 13 + 2, none⟩ = some (.string (bs x.s)) ∧ V.cell? ⟨gb, off + j * 13 + 3, none⟩ = some (.int .i64 x.e) ∧ V.cell? ⟨gb, off + j * 13 + 4, none⟩ = some (.int .i64 x.r.1) ∧ V.cell? ⟨gb, off + j * 13 + 5, none⟩ = some (.int .i64 x.r.2.1) ∧ V.cell? ⟨gb, off + j * 13 + 6, none⟩ = some (.bool x.r.2.2.1) ∧ V.cell? ⟨gb, off + j * 13 + 7, none⟩ = some (.bool x.r.2.2.2) ∧ V.cell? ⟨gb, off + j * 13 + 8, none⟩ = some (.int .i64 x.q.1) ∧ V.cell? ⟨gb, off + j * 13 + 9, none⟩ = some (.int .i64 x.q.2.1) ∧ V.cell? ⟨gb, off + j * 13 + 10, none⟩ = some (.bool x.q.2.2.1) ∧ V.cell? ⟨gb, off + j * 13 + 11, none⟩ = some (.bool x.q.2.2.2) ∧ V.cell? ⟨gb, off + j * 13 + 12, none⟩ = some (.slice p1 l1 c1)) ∧ (V.cell? ⟨gb2, off2 + j * 13, none⟩ = some (.int .i64 y.k) ∧ V.cell? ⟨gb2, off2 + j * 13 + 1, none⟩ = some (.int .i64 y.n) ∧ V.cell? ⟨gb2, off2 + j * 13 + 2, none⟩ = some (.string (bs y.s)) ∧ V.cell? ⟨gb2, off2 + j * 13 + 3, none⟩ = some (.int .i64 y.e) ∧ V.cell? ⟨gb2, off2 + j * 13 + 4, none⟩ = some (.int .i64 y.r.1) ∧ V.cell? ⟨gb2, off2 + j * 13 + 5, none⟩ = some (.int .i64 y.r.2.1) ∧ V.cell? ⟨gb2, off2 + j * 13 + 6, none⟩ = some (.bool y.r.2.2.1) ∧ V.cell? ⟨gb2, off2 + j * 13 + 7, none⟩ = some (.bool y.r.2.2.2) ∧ V.cell? ⟨gb2, off2 + j * 13 + 8, none⟩ = some (.int .i64 y.q.1) ∧ V.cell? ⟨gb2, off2 + j * 13 + 9, none⟩ = some (.int .i64 y.q.2.1) ∧ V.cell? ⟨gb2, off2 + j * 13 + 10, none⟩ = some (.bool y.q.2.2.1) ∧ V.cell? ⟨gb2, off2 + j * 13 + 11, none⟩ = some (.bool y.q.2.2.2) ∧ V.cell? ⟨gb2, off2 + j * 13 + 12, none⟩ = some (.slice p2 l2 c2)))) (by kernel_rfl) ?_ (fun hHeld0 => ?_)
     · (refine mkS.out _ ?_; ((with_reducible (repeat (first | assumption | exact Ext.refl _ | apply Ext.alloc | apply Ext.drew | apply Ext.drewN))); done))
     refine wpAnyH_take (i := 0) (oi := ⟨some 93, .fieldAddr 29 (.tmp 2) 6, 0, "ref.go:294", #[], none⟩) (v := ?_) rfl (by kernel_rfl) (by kernel_rfl) (by kernel_rfl) (fun _ _ _ h => h) (Or.inl ⟨by rfl, ?_⟩) (by assumption) ?_
     rotate_left
     · intro w hSw; (try dsimp only at hSw); first | (go_simp; done) | (go_simp; with_reducible rfl)
     try simp only [Act.put, List.setIfInBounds_toArray, List.set_cons_zero, List.set_cons_succ]
     refine wpAnyH_take (i := 1) (oi := ⟨some 94, .load 27 (.tmp 93), 27, "ref.go:294", #[⟨0, .data⟩], none⟩) (v := ?_) rfl (by kernel_rfl) (by kernel_rfl) (by kernel_rfl) (fun _ _ _ h => h) (Or.inl ⟨by rfl, ?_⟩) (by assumption) ?_
     rotate_left
     · intro w hSw; (try dsimp only at hSw); first | (go_simp; done) | (go_simp; with_reducible rfl)
     try simp only [Act.put, List.setIfInBounds_toArray, List.set_cons_zero, List.set_cons_succ]
     refine wpAnyH_take (i := 2) (oi := ⟨some 95, .move (.tmp 5), 3, "ref.go:294", #[], none⟩) (v := ?_) rfl (by kernel_rfl) (by kernel_rfl) (by kernel_rfl) (fun _ _ _ h => h) (Or.inl ⟨by rfl, ?_⟩) (by assumption) ?_
     rotate_left
     · intro w hSw; (try dsimp only at hSw); first | (go_simp; done) | (go_simp; with_reducible rfl)
     try simp only [Act.put, List.setIfInBounds_toArray, List.set_cons_zero, List.set_cons_succ]
     refine wpAnyH_take (i := 3) (oi := ⟨some 96, .indexAddr 27 (.tmp 94) (.tmp 95), 0, "ref.go:294", #[⟨1, .data⟩, ⟨2, .data⟩], none⟩) (v := ?_) rfl (by kernel_rfl) (by kernel_rfl) (by kernel_rfl) (fun _ _ _ h => h) (Or.inl ⟨by rfl, ?_⟩) (by assumption) ?_
     rotate_left
     · intro w hSw; (try dsimp only at hSw); first | (go_simp; done) | (go_simp; with_reducible rfl)
     try simp only [Act.put, List.setIfInBounds_toArray, List.set_cons_zero, List.set_cons_succ]
     refine wpAnyH_take (i := 4) (oi := ⟨some 97, .load 29 (.tmp 96), 29, "ref.go:294", #[⟨3, .data⟩], none⟩) (v := ?_) rfl (by kernel_rfl) (by kernel_rfl) (by kernel_rfl) (fun _ _ _ h => h) (Or.inl ⟨by rfl, ?_⟩) (by assumption) ?_
     rotate_left
     · intro w hSw; (try dsimp only at hSw); first | (go_simp; done) | (go_simp; with_reducible rfl)
     try simp only [Act.put, List.setIfInBounds_toArray, List.set_cons_zero, List.set_cons_succ]
     refine wpAnyH_take (i := 5) (oi := ⟨some 98, .fieldAddr 29 (.tmp 3) 6, 0, "ref.go:294", #[], none⟩) (v := ?_) rfl (by kernel_rfl) (by kernel_rfl) (by kernel_rfl) (fun _ _ _ h => h) (Or.inl ⟨by rfl, ?_⟩) (by assumption) ?_
     rotate_left
     · intro w hSw; (try dsimp only at hSw); first | (go_simp; done) | (go_simp; with_reducible rfl)
     try simp only [Act.put, List.setIfInBounds_toArray, List.set_cons_zero, List.set_cons_succ]
     refine wpAnyH_take (i := 6) (oi := ⟨some 99, .load 27 (.tmp 98), 27, "ref.go:294", #[⟨5, .data⟩], none⟩) (v := ?_) rfl (by kernel_rfl) (by kernel_rfl) (by kernel_rfl) (fun _ _ _ h => h) (Or.inl ⟨by rfl, ?_⟩) (by assumption) ?_
     rotate_left
     · intro w hSw; (try dsimp only at hSw); first | (go_simp; done) | (go_simp; with_reducible rfl)
     try simp only [Act.put, List.setIfInBounds_toArray, List.set_cons_zero, List.set_cons_succ]
     refine wpAnyH_take (i := 7) (oi := ⟨some 100, .move (.tmp 5), 3, "ref.go:294", #[], none⟩) (v := ?_) rfl (by kernel_rfl) (by kernel_rfl) (by kernel_rfl) (fun _ _ _ h => h) (Or.inl ⟨by rfl, ?_⟩) (by assumption) ?_
     rotate_left
     · intro w hSw; (try dsimp only at hSw); first | (go_simp; done) | (go_simp; with_reducible rfl)
     try simp only [Act.put, List.setIfInBounds_toArray, List.set_cons_zero, List.set_cons_succ]
     refine wpAnyH_take (i := 8) (oi := ⟨some 101, .indexAddr 27 (.tmp 99) (.tmp 100), 0, "ref.go:294", #[⟨6, .data⟩, ⟨7, .data⟩], none⟩) (v := ?_) rfl (by kernel_rfl) (by kernel_rfl) (by kernel_rfl) (fun _ _ _ h => h) (Or.inl ⟨by rfl, ?_⟩) (by assumption) ?_
     rotate_left
     · intro w hSw; (try dsimp only at hSw); first | (go_simp; done) | (go_simp; with_reducible rfl)
     try simp only [Act.put, List.setIfInBounds_toArray, List.set_cons_zero, List.set_cons_succ]
     refine wpAnyH_take (i := 9) (oi := ⟨some 102, .load 29 (.tmp 101), 29, "ref.go:294", #[⟨8, .data⟩], none⟩) (v := ?_) rfl (by kernel_rfl) (by kernel_rfl) (by kernel_rfl) (fun _ _ _ h => h) (Or.inl ⟨by rfl, ?_⟩) (by assumption) ?_
     rotate_left
     · intro w hSw; (try dsimp only at hSw); first | (go_simp; done) | (go_simp; with_reducible rfl)
     try simp only [Act.put, List.setIfInBounds_toArray, List.set_cons_zero, List.set_cons_succ]
     refine wpAnyH_ready (rs := [10]) (by kernel_rfl) (by simp) ?_
     refine AllReadyH.cons (o := ⟨some 103, .call { callee := .value (.func 7), args := #[.tmp 97, .tmp 102], argTypes := #[29, 29] }, 4, "ref.go:294", #[⟨4, .data⟩, ⟨9, .data⟩], none⟩) rfl (fun K hK => ?_) AllReadyH.nil
     go_simp
     (go_at_call 7; refine Calls.mono (HC.out _ (by with_reducible repeat (first | assumption | exact Ext.refl _ | apply Ext.alloc | apply Ext.drew | apply Ext.drewN))) ?_; rintro e w9 ⟨rfl, E9⟩; have X9 : Ext wr w9 := Ext.trans (by with_reducible repeat (first | assumption | exact Ext.refl _ | apply Ext.alloc | apply Ext.drew | apply Ext.drewN)) E9)
     try go_wp2_with fail
     refine hK.out _ _ ?_ (fun hHeld1 => ?_)
     · (try dsimp only); (refine mkS.out _ ?_; ((with_reducible (repeat (first | assumption | exact Ext.refl _ | apply Ext.alloc | apply Ext.drew | apply Ext.drewN))); done))
     clear hK K hHeld0
     try simp only [Act.put, List.setIfInBounds_toArray, List.set_cons_zero, List.set_cons_succ]
     refine wpAnyH_take (i := 11) (oi := ⟨some 104, .unOp .not 4 (.tmp 103), 4, "ref.go:294", #[⟨10, .data⟩], none⟩) (v := ?_) rfl (by kernel_rfl) (by kernel_rfl) (by kernel_rfl) (fun _ _ _ h => h) (Or.inl ⟨by rfl, ?_⟩) (by assumption) ?_
     rotate_left
     · intro w hSw; (try dsimp only at hSw); first | (go_simp; done) | (go_simp; with_reducible rfl)
     try simp only [Act.put, List.setIfInBounds_toArray, List.set_cons_zero, List.set_cons_succ]
     refine wpAnyH_done (by kernel_rfl) ?_ _
     have HE9 : Hid (Ext W w9 ∧ BlkX w9 W.heap.size a (.slice (some ⟨gb, off, none⟩) ln cl) ∧ BlkX w9 (W.heap.size + 1) b (.slice (some ⟨gb2, off2, none⟩) ln cm)) := ⟨HE.out.1.trans X9, HBX.out.1.ext X9, HBX.out.2.ext X9⟩
     clear E9 X9 k0 k1 k2 k3 k4 k5 k6 k7 k8 k9 k10 k11 k12 m0 m1 m2 m3 m4 m5 m6 m7 m8 m9 m10 m11 m12
     cases hgx : sameT n x y
     · have HR : Hid (allZ (sameT n) a.l b.l = false) := allZ_no _ _ _ j x y HX1.out.1 HX1.out.2 hgx
       clear hgx
       go_wp2_with fail
       go_ret
       exact ⟨ret_bool (by rw [HX.out, HR.out]), HE9.out.1⟩
     · have HR : Hid (allZ (sameT n) (a.l.take (j + 1)) (b.l.take (j + 1)) = true) := by show _ = _; rw [allZ_take _ _ _ j x y HX1.out.1 HX1.out.2, HE.out.2, hgx]; rfl
       clear hgx
       go_wp2_with fail
       go_roundw
       case rel => exact ⟨j + 1, by omega, by go_num, HR.out, HE9.out.2.1, HE9.out.2.2, HE9.out.1⟩
       case measure => show ln - ((j : Int) + 1).toNat < ln - ((j : Int)).toNat; omega
   · have hltI : ¬ (j : Int) < (ln : Int) := by omega
     have HR : Hid (allZ (sameT n) a.l b.l = true) := by
       show _ = _
       have := HE.out.2
       rw [List.take_of_length_le (by have := HLN.out.1; omega), List.take_of_length_le (by have := HLN.out.2; omega)] at this
       exact this
     go_wp2_with fail
     go_ret
     exact ⟨ret_bool (by rw [HX.out, HR.out]), HE.out.1⟩
theorem rsame_any (P : Nat → Prop) (n : Nat) (a : T) (h : Hr n a) : SmC 7 P n a := by
 induction n generalizing a with
 | zero => cases h
 | succ n ih =>
   have hx : ∀ x ∈ a.l, SmC 7 P n x := fun x hx => ih x (h.2 x hx)
   by_cases k6 : a.k = 6
   · exact rsame_6 P n a k6 h.1 hx
   by_cases k7 : a.k = 7
   · exact rsame_7 P n a k7 h.1 hx
   by_cases k8 : a.k = 8
   · exact rsame_8 P n a k8 h.1 hx
   exact rsame_leaf P n a (by omega)

open Go.RowKit
set_option maxHeartbeats 6000000

def maxD (f : T → Nat) : List T → Nat
 | [] => 0
 | x :: r => max (f x) (maxD f r)
end Go.Proofs.YtcggiljlilbdfaaGreatDoor
