/-
 Contracts: a sum told as a number, of the program and of the document's answers.
 Contracts of Add and Sub, of the program and of the document's answers.
 The contracts of package num's digitsAlone and whole.
-/
import Derived.Test.YtalejeknigbhjaaGreatDoorY1
import Derived.WalkLawsBesides
namespace Go.Proofs.YtalejeknigbhjaaGreatDoor
open Go.RowKit
set_option maxHeartbeats 400000

theorem told_acc (x : Int) (w : World) : Calls Tryz.prog 96 #[.agg #[.int .i64 (hiOf x), .int .u64 (loOf x)]] w fun e w' => e = .returned (.tuple #[.int .i64 (toldV x), .bool (toldB x)]) ∧ Ext w w' := by
 have p1 := uhi_hiOf x
 have p3 := sg_lo x
 obtain ⟨a1, a2⟩ := hi_bd x; obtain ⟨b1, b2⟩ := lo_bd x
 have hs := sg_bd x
 cases hn : (uhi x != up64 (sg64 x))
 · have ht : toldB x = canB (sg64 x) := by unfold toldB; simp at hn; simp [hn]
   have HT : Hid (toldB x = canB (sg64 x)) := ht
   clear ht
   cases hc : canB (sg64 x)
   all_goals
     have HC : Hid (canB (sg64 x) = _) := hc
     go_enter Tryz.func96, Tryz.ntmps96
     go_wp2
     go_region_held3 (fun w' => Ext w w' ∧ w'.cell? ⟨w.heap.size, 0, none⟩ = some (.int .i64 (hiOf x)))
       (first
         | assumption
         | (refine ⟨((Ext.refl _).alloc _).drew, ?_⟩ ; simp [go_sem]; done)
         | (refine ⟨(((Ext.refl _).alloc _).alloc _).drew, ?_⟩ ; simp [go_sem, World.cell?_alloc_past]; done))
       (first
         | (go_at_call 131; refine (upper_any _ hs _).mono ?_; rintro e w' ⟨rfl, rfl⟩)
         | (go_at_call 112; refine Calls.mono (numbers_1 (sg64 x) (w.heap.size + 1) _ (by simp [go_sem])) ?_; rintro e w' ⟨rfl, rfl⟩))
     go_wp2
     go_ret2
     exact ⟨ret_ib (by unfold toldV; rw [HT.out, HC.out]; rfl) (by rw [HT.out, HC.out]), (((Ext.refl _).alloc _).alloc _).drew⟩
 · have HT : Hid (toldB x = false) := by show toldB x = false; unfold toldB; simp at hn; simp [hn]
   go_enter Tryz.func96, Tryz.ntmps96
   go_wp2
   go_quiet ((go_at_call 131; exact Calls.quiet_of_same (upper_any _ hs _)))
   go_wp2
   go_ret2
   exact ⟨ret_ib (by unfold toldV; rw [HT.out]; rfl) (by rw [HT.out]), ((Ext.refl _).alloc _).drewN _⟩
theorem rtold_acc (x : Int) (w : World) : Calls Tryz.prog 41 #[.agg #[.int .i64 (hiOf x), .int .u64 (loOf x)]] w fun e w' => e = .returned (.tuple #[.int .i64 (toldV x), .bool (toldB x)]) ∧ Ext w w' := by
 have p1 := uhi_hiOf x
 have p3 := sg_lo x
 obtain ⟨a1, a2⟩ := hi_bd x; obtain ⟨b1, b2⟩ := lo_bd x
 have hs := sg_bd x
 have q1 : uhi (sg64 x) = up64 (sg64 x) := by obtain ⟨_, _⟩ := hs; unfold up64 uhi; split <;> omega
 have q2 : loOf (sg64 x) = loOf x := by unfold loOf sg64; omega
 have hword := fun W => word_any (sg64 x) hs W
 rw [q1, q2] at hword
 have HW := hword
 clear hword q1 q2
 cases hn : (uhi x == up64 (sg64 x))
 · have HT : Hid (toldB x = false) := by show toldB x = false; unfold toldB; simp [hn]
   go_enter Tryz.func41, Tryz.ntmps41
   go_wp2
   first
     | go_region_with (go_at_call 81; refine (HW _).mono ?_; rintro e w' ⟨rfl, hE⟩; obtain ⟨hc, hf⟩ := hE.cell)
     | fail "region"
   all_goals
     go_wp2
     go_ret2
     exact ⟨ret_ib (by unfold toldV; rw [HT.out]; rfl) (by rw [HT.out]), by
       refine Ext.trans ?_ (Ext.drewN hE 0) <;> (repeat (first | exact Ext.refl _ | apply Ext.drew | apply Ext.alloc))⟩
 · have HT : Hid (toldB x = canB (sg64 x)) := by show toldB x = canB (sg64 x); unfold toldB; simp [hn]
   cases hc : canB (sg64 x)
   all_goals
     have HC : Hid (canB (sg64 x) = _) := hc
     go_enter Tryz.func41, Tryz.ntmps41
     go_wp2
     go_region_held3 (fun w' => (Ext w w' ∧ w.heap.size + 0 < w'.heap.size) ∧ w'.cell? ⟨w.heap.size, 0, none⟩ = some (.int .i64 (hiOf x)) ∧ w'.cell? ⟨w.heap.size, 1, none⟩ = some (.int .u64 (loOf x)))
       (first
         | assumption
         | (refine keep2 ?_ ((Ext.refl _).drew); assumption)
         | (refine ⟨⟨((Ext.refl _).alloc _).drew, ?_⟩, ?_, ?_⟩ <;> simp [go_sem]))
       (first
         | (go_at_call 81; refine (HW _).mono ?_; rintro e w' ⟨rfl, hE⟩; have hS := keep2 (by assumption) hE)
         | (go_at_call 31; refine (rcan_any _ _).mono ?_; rintro e w' ⟨rfl, rfl⟩))
     go_wp2
     go_ret2
     exact ⟨ret_ib (by unfold toldV; rw [HT.out, HC.out]; rfl) (by rw [HT.out, HC.out]), hS.1.1⟩

open Go.RowKit
set_option maxHeartbeats 400000

/-- The sum of two numbers: is it one, and which. -/
def addB (a b : Int) : Bool := (canB a && canB b) && fitB (a + b)
def addV (a b : Int) : Int := if addB a b then a + b else 0
def subB (a b : Int) : Bool := (canB a && canB b) && fitB (a - b)
def subV (a b : Int) : Int := if subB a b then a - b else 0
theorem addB_no {a b : Int} (h : (canB a && canB b) = false) : addB a b = false := by unfold addB; rw [h]; rfl
theorem addV_no {a b : Int} (h : (canB a && canB b) = false) : addV a b = 0 := by unfold addV; rw [addB_no h]; rfl
theorem subB_no {a b : Int} (h : (canB a && canB b) = false) : subB a b = false := by unfold subB; rw [h]; rfl
theorem subV_no {a b : Int} (h : (canB a && canB b) = false) : subV a b = 0 := by unfold subV; rw [subB_no h]; rfl
theorem addB_yes {a b : Int} (ha : I64 a) (hb : I64 b) (h : (canB a && canB b) = true) : toldB (a + b) = addB a b := by
 obtain ⟨_, _⟩ := ha; obtain ⟨_, _⟩ := hb
 unfold addB; rw [h, toldB_eq _ (by omega)]; simp
theorem addV_yes {a b : Int} (ha : I64 a) (hb : I64 b) (h : (canB a && canB b) = true) : toldV (a + b) = addV a b := by
 have := addB_yes ha hb h
 obtain ⟨_, _⟩ := ha; obtain ⟨_, _⟩ := hb
 unfold addV; rw [← this, toldV_eq _ (by omega), toldB_eq _ (by omega)]
theorem subB_yes {a b : Int} (ha : I64 a) (hb : I64 b) (h : (canB a && canB b) = true) : toldB (a - b) = subB a b := by
 obtain ⟨_, _⟩ := ha; obtain ⟨_, _⟩ := hb
 unfold subB; rw [h, toldB_eq _ (by omega)]; simp
theorem subV_yes {a b : Int} (ha : I64 a) (hb : I64 b) (h : (canB a && canB b) = true) : toldV (a - b) = subV a b := by
 have := subB_yes ha hb h
 obtain ⟨_, _⟩ := ha; obtain ⟨_, _⟩ := hb
 unfold subV; rw [← this, toldV_eq _ (by omega), toldB_eq _ (by omega)]

theorem add_any (a b : Int) (ha : I64 a) (hb : I64 b) (w : World) : Calls Tryz.prog 116 #[.int .i64 a, .int .i64 b] w fun e w' => e = .returned (.tuple #[.int .i64 (addV a b), .bool (addB a b)]) ∧ Ext w w' := by
 cases hc : (canB a && canB b)
 · have HC := addB_no hc
   have HV := addV_no hc
   go_enter Tryz.func116, Tryz.ntmps116
   go_wp2_with (go_at_call 112; refine Calls.mono (numbers_2 a b w.heap.size _ (by simp [go_sem]) (by simp [go_sem])) ?_; rintro e w' ⟨rfl, rfl⟩)
   go_ret2
   exact ⟨ret_ib HV.symm HC.symm, (Ext.refl _).alloc _⟩
 · have HB : Hid (toldB (a + b) = addB a b) := addB_yes ha hb hc
   have HV : Hid (toldV (a + b) = addV a b) := addV_yes ha hb hc
   have P0 := fun W => plus_acc 0 a ha W
   have z1 : hiOf 0 = 0 := by decide
   have z2 : loOf 0 = 0 := by decide
   simp only [z1, z2, Int.zero_add] at P0
   clear z1 z2
   go_enter Tryz.func116, Tryz.ntmps116
   go_wp2_with (go_at_call 112; refine Calls.mono (numbers_2 a b w.heap.size _ (by simp [go_sem]) (by simp [go_sem])) ?_; rintro e w' ⟨rfl, rfl⟩)
   refine (P0 _).mono ?_
   rintro e w1 ⟨rfl, E1⟩
   go_wp2_with fail
   refine (plus_acc a b hb _).mono ?_
   rintro e w2 ⟨rfl, E2⟩
   go_wp2_with fail
   refine (told_acc (a + b) _).mono ?_
   rintro e w3 ⟨rfl, E3⟩
   go_wp2
   go_ret2
   exact ⟨ret_ib HV.out HB.out, (((Ext.refl _).alloc _).trans E1).trans (E2.trans E3)⟩
theorem sub_any (a b : Int) (ha : I64 a) (hb : I64 b) (w : World) : Calls Tryz.prog 115 #[.int .i64 a, .int .i64 b] w fun e w' => e = .returned (.tuple #[.int .i64 (subV a b), .bool (subB a b)]) ∧ Ext w w' := by
 cases hc : (canB a && canB b)
 · have HC := subB_no hc
   have HV := subV_no hc
   go_enter Tryz.func115, Tryz.ntmps115
   go_wp2_with (go_at_call 112; refine Calls.mono (numbers_2 a b w.heap.size _ (by simp [go_sem]) (by simp [go_sem])) ?_; rintro e w' ⟨rfl, rfl⟩)
   go_ret2
   exact ⟨ret_ib HV.symm HC.symm, (Ext.refl _).alloc _⟩
 · have HB : Hid (toldB (a - b) = subB a b) := subB_yes ha hb hc
   have HV : Hid (toldV (a - b) = subV a b) := subV_yes ha hb hc
   have P0 := fun W => plus_acc 0 a ha W
   have z1 : hiOf 0 = 0 := by decide
   have z2 : loOf 0 = 0 := by decide
   simp only [z1, z2, Int.zero_add] at P0
   clear z1 z2
   go_enter Tryz.func115, Tryz.ntmps115
   go_wp2_with (go_at_call 112; refine Calls.mono (numbers_2 a b w.heap.size _ (by simp [go_sem]) (by simp [go_sem])) ?_; rintro e w' ⟨rfl, rfl⟩)
   refine (P0 _).mono ?_
   rintro e w1 ⟨rfl, E1⟩
   go_wp2_with fail
   refine (less_acc a b hb _).mono ?_
   rintro e w2 ⟨rfl, E2⟩
   go_wp2_with fail
   refine (told_acc (a - b) _).mono ?_
   rintro e w3 ⟨rfl, E3⟩
   go_wp2
   go_ret2
   exact ⟨ret_ib HV.out HB.out, (((Ext.refl _).alloc _).trans E1).trans (E2.trans E3)⟩
theorem radd_any (a b : Int) (ha : I64 a) (hb : I64 b) (w : World) : Calls Tryz.prog 127 #[.int .i64 a, .int .i64 b] w fun e w' => e = .returned (.tuple #[.int .i64 (addV a b), .bool (addB a b)]) ∧ Ext w w' := by
 cases hca : canB a
 · have HC := addB_no (a := a) (b := b) (by rw [hca]; rfl)
   have HV := addV_no (a := a) (b := b) (by rw [hca]; rfl)
   go_enter Tryz.func127, Tryz.ntmps127
   go_wp2_with (go_at_call 31; refine (rcan_any _ _).mono ?_; rintro e w' ⟨rfl, rfl⟩)
   go_ret2
   exact ⟨ret_ib HV.symm HC.symm, Ext.refl _⟩
 cases hcb : canB b
 · have HC := addB_no (a := a) (b := b) (by rw [hca, hcb]; rfl)
   have HV := addV_no (a := a) (b := b) (by rw [hca, hcb]; rfl)
   go_enter Tryz.func127, Tryz.ntmps127
   go_wp2_with (go_at_call 31; refine (rcan_any _ _).mono ?_; rintro e w' ⟨rfl, rfl⟩)
   go_ret2
   exact ⟨ret_ib HV.symm HC.symm, Ext.refl _⟩
 · have HB : Hid (toldB (a + b) = addB a b) := addB_yes ha hb (by rw [hca, hcb]; rfl)
   have HV : Hid (toldV (a + b) = addV a b) := addV_yes ha hb (by rw [hca, hcb]; rfl)
   have P0 := fun W => rplus_acc 0 a ha W
   have z1 : hiOf 0 = 0 := by decide
   have z2 : loOf 0 = 0 := by decide
   simp only [z1, z2, Int.zero_add] at P0
   clear z1 z2
   go_enter Tryz.func127, Tryz.ntmps127
   go_wp2_with (go_at_call 31; refine (rcan_any _ _).mono ?_; rintro e w' ⟨rfl, rfl⟩)
   refine (P0 _).mono ?_
   rintro e w1 ⟨rfl, E1⟩
   go_wp2_with fail
   refine (rplus_acc a b hb _).mono ?_
   rintro e w2 ⟨rfl, E2⟩
   go_wp2_with fail
   refine (rtold_acc (a + b) _).mono ?_
   rintro e w3 ⟨rfl, E3⟩
   go_wp2
   go_ret2
   exact ⟨ret_ib HV.out HB.out, E1.trans (E2.trans E3)⟩
theorem rsub_any (a b : Int) (ha : I64 a) (hb : I64 b) (w : World) : Calls Tryz.prog 90 #[.int .i64 a, .int .i64 b] w fun e w' => e = .returned (.tuple #[.int .i64 (subV a b), .bool (subB a b)]) ∧ Ext w w' := by
 cases hca : canB a
 · have HC := subB_no (a := a) (b := b) (by rw [hca]; rfl)
   have HV := subV_no (a := a) (b := b) (by rw [hca]; rfl)
   go_enter Tryz.func90, Tryz.ntmps90
   go_wp2_with (go_at_call 31; refine (rcan_any _ _).mono ?_; rintro e w' ⟨rfl, rfl⟩)
   go_ret2
   exact ⟨ret_ib HV.symm HC.symm, Ext.refl _⟩
 cases hcb : canB b
 · have HC := subB_no (a := a) (b := b) (by rw [hca, hcb]; rfl)
   have HV := subV_no (a := a) (b := b) (by rw [hca, hcb]; rfl)
   go_enter Tryz.func90, Tryz.ntmps90
   go_wp2_with (go_at_call 31; refine (rcan_any _ _).mono ?_; rintro e w' ⟨rfl, rfl⟩)
   go_ret2
   exact ⟨ret_ib HV.symm HC.symm, Ext.refl _⟩
 · obtain ⟨b1, b2⟩ := hb
   have hn : wrap64 (-b) = -b := by unfold canB at hcb; simp at hcb; unfold wrap64; omega
   have hN : I64 (-b) := by unfold canB at hcb; simp at hcb; exact ⟨by omega, by omega⟩
   have hcn : canB (-b) = true := by unfold canB; simp; omega
   have HB : Hid (addB a (-b) = subB a b) := by show addB a (-b) = subB a b; unfold addB subB; rw [hca, hcb, hcn, Int.sub_eq_add_neg]
   have HV : Hid (addV a (-b) = subV a b) := by show addV a (-b) = subV a b; unfold addV subV; rw [HB.out, Int.sub_eq_add_neg]
   have P0 := fun W => radd_any a (-b) ha hN W
   clear hN hcn
   go_enter Tryz.func90, Tryz.ntmps90
   go_wp2_with (go_at_call 31; refine (rcan_any _ _).mono ?_; rintro e w' ⟨rfl, rfl⟩)
   refine (P0 _).mono ?_
   rintro e w1 ⟨rfl, E1⟩
   go_wp2
   go_ret2
   exact ⟨ret_ib HV.out HB.out, E1⟩

open Go.RowKit
set_option maxHeartbeats 1000000

theorem size_list (s : ByteArray) : s.data.toList.length = s.size := (Lib.size_eq s).symm
theorem get_list (s : ByteArray) (k : Nat) (h : k < s.size) : s.data.toList[k]'(by rw [size_list]; exact h) = s[k] := rfl
theorem all_take (l : List UInt8) (k : Nat) (h : k < l.length) : (l.take (k + 1)).all dgB = ((l.take k).all dgB && dgB l[k]) := by
 rw [List.take_succ_eq_append_getElem h, List.all_append]; simp
theorem okD_no (l : List UInt8) (h : l.length = 0 ∨ 40 < l.length) : okD l = false := by
 unfold okD; rw [Bool.and_eq_false_iff]; left; simp; omega
theorem okD_bad (l : List UInt8) (k : Nat) (hk : k < l.length) (h : dgB l[k] = false) : okD l = false := by
 unfold okD; rw [Bool.and_eq_false_iff]; right
 rw [List.all_eq_false]; exact ⟨l[k], List.getElem_mem hk, by simpa using h⟩
theorem okD_yes (l : List UInt8) (h1 : 1 ≤ l.length) (h2 : l.length ≤ 40) (h : l.all dgB = true) : okD l = true := by
 unfold okD; rw [h]; simp; omega
theorem dg_no {c : UInt8} (h : (c.toNat : Int) < 48 ∨ (57 : Int) < c.toNat) : dgB c = false := by unfold dgB; simp; omega
theorem dg_yes {c : UInt8} (h : ¬ (c.toNat : Int) < 48) (h' : ¬ (57 : Int) < c.toNat) : dgB c = true := by unfold dgB; simp; omega

theorem digits_any (s : ByteArray) (w : World) (hs : s.size ≤ maxLen) :
   Calls Tryz.prog 155 #[.string s] w fun e w' => e = .returned (.bool (okD s.data.toList)) ∧ w' = w := by
 unfold maxLen at hs
 have hl := size_list s
 by_cases h0 : s.size = 0
 · have H : Hid (okD s.data.toList = false) := okD_no _ (by omega)
   have he : s.toList.isEmpty = true := by rw [ByteArray.toList_eq]; exact List.isEmpty_iff.2 (List.length_eq_zero_iff.1 (by omega))
   go_enter Tryz.func155, Tryz.ntmps155
   go_wp2
   go_ret
   exact ⟨ret_bool H.out.symm, rfl⟩
 have he : s.toList.isEmpty = false := by rw [ByteArray.toList_eq]; exact Bool.eq_false_iff.2 fun h => h0 (by rw [← hl, List.isEmpty_iff.1 h]; rfl)
 by_cases h1 : 40 < s.size
 · have H : Hid (okD s.data.toList = false) := okD_no _ (by omega)
   go_enter Tryz.func155, Tryz.ntmps155
   go_wp2
   go_ret
   exact ⟨ret_bool H.out.symm, rfl⟩
 have HY : Hid (s.data.toList.all dgB = true → okD s.data.toList = true) := okD_yes _ (by omega) (by omega)
 go_enter Tryz.func155, Tryz.ntmps155
 go_wp2
 go_loop [13] (fun i => ∃ k : Nat, k ≤ s.size ∧ i = .int .i64 k ∧ (s.data.toList.take k).all dgB = true) (fun i => s.size - (intOf i).toNat)
 case atStart => exact ⟨0, Nat.zero_le _, rfl, rfl⟩
 case round =>
   obtain ⟨k, hk, rfl, ha⟩ := hrel
   have HA : Hid ((s.data.toList.take k).all dgB = true) := ha
   clear ha
   by_cases hlt : k < s.size
   · have HT : Hid ((s.data.toList.take (k + 1)).all dgB = ((s.data.toList.take k).all dgB && dgB s[k])) := all_take s.data.toList k (by omega)
     have HB : Hid (dgB s[k] = false → okD s.data.toList = false) := okD_bad s.data.toList k (by omega)
     by_cases c1 : (s[k].toNat : Int) < 48
     · go_wp2
       go_ret
       exact ⟨ret_bool (HB.out (dg_no (.inl c1))).symm, rfl⟩
     by_cases c2 : (57 : Int) < s[k].toNat
     · go_wp2
       go_ret
       exact ⟨ret_bool (HB.out (dg_no (.inr c2))).symm, rfl⟩
     · have HD : Hid (dgB s[k] = true) := dg_yes c1 c2
       go_wp2
       go_round
       case rel => exact ⟨k + 1, by omega, by go_num, by rw [HT.out, HA.out, HD.out]; rfl⟩
       case measure => simp [intOf]; omega
   · go_wp2
     go_ret
     exact ⟨ret_bool (HY.out (by have := HA.out; rwa [List.take_of_length_le (by omega)] at this)).symm, rfl⟩

/-- A list of digits, step by step. -/
theorem dig_at (l : List UInt8) (h : l.all dgB = true) (k : Nat) (hk : k < l.length) : 48 ≤ l[k].toNat ∧ l[k].toNat ≤ 57 :=
 dg_bd (List.all_eq_true.1 h _ (List.getElem_mem hk))
def whV (n : Nat) : Int := if n ≤ 9223372036854775807 then n else 0
def whB (n : Nat) : Bool := decide (n ≤ 9223372036854775807)
theorem wh_no {n : Nat} (h : 9223372036854775807 < n) : whV n = 0 ∧ whB n = false := ⟨by unfold whV; rw [if_neg (by omega)], by unfold whB; simp; omega⟩
theorem wh_yes {n : Nat} (h : n ≤ 9223372036854775807) : whV n = n ∧ whB n = true := ⟨by unfold whV; rw [if_pos h], by unfold whB; simp; omega⟩

theorem whole_any (s : ByteArray) (w : World) (hs : s.size ≤ 100) (ha : s.data.toList.all dgB = true) :
   Calls Tryz.prog 162 #[.string s] w fun e w' => e = .returned (.tuple #[.int .i64 (whV (val s.data.toList)), .bool (whB (val s.data.toList))]) ∧ w' = w := by
 have hl := size_list s
 have HA : Hid (∀ k (h : k < s.size), 48 ≤ s[k].toNat ∧ s[k].toNat ≤ 57) := fun k h => dig_at s.data.toList ha k (by omega)
 have HM : Hid (∀ k, val (s.data.toList.take k) ≤ val s.data.toList) := val_mono _
 clear ha
 go_enter Tryz.func162, Tryz.ntmps162
 go_wp2
 go_loop [4, 9] (fun n i => ∃ k : Nat, k ≤ s.size ∧ i = .int .i64 k ∧ ∃ v : Nat, v = val (s.data.toList.take k) ∧ v ≤ 9223372036854775807 ∧ n = .int .i64 v) (fun _ i => s.size - (intOf i).toNat)
 case atStart => exact ⟨0, Nat.zero_le _, rfl, 0, rfl, by omega, rfl⟩
 case round =>
   obtain ⟨k, hk, rfl, v, hv, hv', rfl⟩ := hrel
   have HV : Hid (v = val (s.data.toList.take k)) := hv
   clear hv
   have hv2 : (v : Int) ≤ 9223372036854775807 := by omega
   by_cases hlt : k < s.size
   · have HT : Hid (val (s.data.toList.take (k + 1)) = val (s.data.toList.take k) * 10 + (s[k].toNat - 48)) := val_take_succ s.data.toList k (by omega)
     obtain ⟨d1, d2⟩ := HA.out k hlt
     have d3 : (48 : Int) ≤ s[k].toNat := by omega
     have d4 : (s[k].toNat : Int) ≤ 57 := by omega
     clear hv'
     by_cases g : (9223372036854775807 - ((s[k].toNat : Int) - 48)) / 10 < (v : Int)
     · have HG : Hid (9223372036854775807 < val s.data.toList) := by
         show _ < _; have := HM.out (k + 1); rw [HT.out, ← HV.out] at this; omega
       go_wp2
       go_ret2
       exact ⟨ret_ib (wh_no HG.out).1.symm (wh_no HG.out).2.symm, rfl⟩
     · have g2 : 10 * (v : Int) + ((s[k].toNat : Int) - 48) ≤ 9223372036854775807 := by omega
       go_wp2
       go_round
       case rel => exact ⟨k + 1, by omega, by go_num, 10 * v + (s[k].toNat - 48), by rw [HT.out, ← HV.out]; omega, by omega, by go_num⟩
       case measure => simp [intOf]; omega
   · go_wp2
     go_ret2
     have e : v = val s.data.toList := by rw [HV.out, List.take_of_length_le (by omega)]
     rw [← e]
     exact ⟨ret_ib (wh_yes hv').1.symm (wh_yes hv').2.symm, rfl⟩
end Go.Proofs.YtalejeknigbhjaaGreatDoor
