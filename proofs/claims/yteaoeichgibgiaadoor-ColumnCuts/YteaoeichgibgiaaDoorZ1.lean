/-
 Plain arithmetic of 64 and 128 bits for the walks over package fix and the document's answers: no program in sight.
 Decimal numerals as lists of bytes: which are numerals, what they say, how numbers are written. Plain mathematics: no program in sight.
 Contracts of the small functions of package fix and of the document's answers: sizes, numbers, sums of 128 bits.
 Contracts of the document's answers: a sum and a number, a sum less a number (128 bits).
 Contracts: a sum told as a number, of the program and of the document's answers.
 Contracts of Add and Sub, of the program and of the document's answers.
 The contracts of package num's digitsAlone and whole.
-/
import Derived.WalkKit
import Derived.WalkSpells
import Derived.Deep.QuietTactic
import Derived.BigQuiet
import Derived.Shelf.Spec.BitsCarry
import Derived.Deep.RegionHeld3
import Derived.Lib.ItoaNum
import Derived.Lib.Strings
import Derived.Test.YteaoeichgibgiaaDoorRows
import Derived.Laws.Externs
import Derived.WalkLawsBesides
namespace Go.Proofs.YteaoeichgibgiaaDoor
open Go.RowKit

/-- Is it a number? (Every int64 but the least.) -/
def canB (a : Int) : Bool := a != -9223372036854775808
/-- The upper half of a in 128 bits. -/
def up64 (a : Int) : Int := if a < 0 then 18446744073709551615 else 0
/-- x as a signed number of 64 bits. -/
def sg64 (x : Int) : Int := (x + 9223372036854775808) % 18446744073709551616 - 9223372036854775808
/-- The two halves of a sum. -/
def hiOf (x : Int) : Int := sg64 (x / 18446744073709551616)
def loOf (x : Int) : Int := x % 18446744073709551616
/-- An int64. -/
def I64 (a : Int) : Prop := -9223372036854775808 ≤ a ∧ a ≤ 9223372036854775807
/-- A uint64. -/
def U64 (a : Int) : Prop := 0 ≤ a ∧ a < 18446744073709551616

theorem ret_bool {a b : Bool} (h : a = b) : Ending.returned (.bool a) = .returned (.bool b) := by rw [h]
theorem ret_ib {k : IntKind} {a b : Int} {x y : Bool} (h : a = b) (g : x = y) : Ending.returned (.tuple #[.int k a, .bool x]) = .returned (.tuple #[.int k b, .bool y]) := by rw [h, g]
theorem ret_ii {k l : IntKind} {a b x y : Int} (h : a = b) (g : x = y) : Ending.returned (.tuple #[.int k a, .int l x]) = .returned (.tuple #[.int k b, .int l y]) := by rw [h, g]
theorem wrapU (x : Int) : IntKind.u64.wrap x = x % 18446744073709551616 := IntKind.wrap_u64 x

def uhi (x : Int) : Int := (x / 18446744073709551616) % 18446744073709551616
theorem hi_bd (x : Int) : I64 (hiOf x) := by unfold hiOf sg64; exact ⟨by omega, by omega⟩
theorem lo_bd (x : Int) : U64 (loOf x) := by unfold loOf; exact ⟨by omega, by omega⟩
theorem up_bd (a : Int) : 0 ≤ up64 a ∧ up64 a < 18446744073709551616 := by unfold up64; split <;> omega
theorem plus_lo (x a : Int) : (loOf x + IntKind.u64.wrap a) % 18446744073709551616 = loOf (x + a) := by rw [wrapU]; unfold loOf; omega
theorem plus_hi (x a : Int) (h : I64 a) : wrap64 ((IntKind.u64.wrap (hiOf x) + up64 a + (loOf x + IntKind.u64.wrap a) / 18446744073709551616) % 18446744073709551616) = hiOf (x + a) := by
 obtain ⟨_, _⟩ := h
 simp only [wrapU]; unfold wrap64 hiOf loOf up64 sg64; split <;> omega
theorem uhi_hiOf (x : Int) : IntKind.u64.wrap (hiOf x) = uhi x := by rw [wrapU]; unfold hiOf uhi sg64; omega
theorem sg_lo (x : Int) : wrap64 (loOf x) = sg64 x := by unfold wrap64 loOf sg64; omega
theorem sg_bd (x : Int) : I64 (sg64 x) := by unfold sg64; exact ⟨by omega, by omega⟩

/-- The world behind a call: of what was there nothing has turned. -/
def Ext (w w' : World) : Prop := Below w.heap.size w w'
theorem Ext.refl (w : World) : Ext w w := Below.refl _ _
theorem Ext.trans {a b c : World} (h : Ext a b) (k : Ext b c) : Ext a c := Below.trans h (Below.mono k h.size)
theorem Ext.drew {a w : World} (h : Ext a w) : Ext a w.drew := Below.drew h
theorem Ext.drewN {a w : World} (h : Ext a w) (n : Nat) : Ext a (w.drewN n) := h.trans ⟨rfl, rfl, rfl, Nat.le_refl _, fun _ _ => rfl⟩
theorem Ext.alloc {a w : World} (h : Ext a w) (o : Obj) : Ext a (w.alloc o) := Below.alloc h h.size o
theorem Ext.setCell {a w : World} (h : Ext a w) {p : Addr} (hp : a.heap.size ≤ p.block) (u : Value) : Ext a (w.setCell p u) := Below.setCell h hp u
theorem Ext.cell {w w1 : World} (hb : Ext w w1) : (∀ b o, b < w.heap.size → w1.cell? ⟨b, o, none⟩ = w.cell? ⟨b, o, none⟩) ∧ (∀ b o, b < w.heap.size → w1.frozen? ⟨b, o, none⟩ = w.frozen? ⟨b, o, none⟩) :=
 ⟨fun b o h => Below.cell hb (p := ⟨b, o, none⟩) h, fun b o h => Below.frozen hb (p := ⟨b, o, none⟩) h⟩
theorem Ext.sz {w w' : World} (h : Ext w w') : w.heap.size ≤ w'.heap.size := h.size

/-- A sum as a number: is it one, and which. -/
def toldB (x : Int) : Bool := (uhi x == up64 (sg64 x)) && canB (sg64 x)
def toldV (x : Int) : Int := if toldB x then sg64 x else 0
/-- Is x a number? -/
def fitB (x : Int) : Bool := decide (-9223372036854775808 < x ∧ x < 9223372036854775808)
theorem toldB_eq (x : Int) (h : -36893488147419103232 ≤ x ∧ x ≤ 36893488147419103232) : toldB x = fitB x := by
 unfold toldB fitB canB
 rw [Bool.eq_iff_iff]
 simp
 unfold uhi up64 sg64
 constructor
 · rintro ⟨h1, h2⟩
   split at h1 <;> omega
 · intro h1
   constructor
   · split <;> omega
   · omega
theorem toldV_eq (x : Int) (h : -36893488147419103232 ≤ x ∧ x ≤ 36893488147419103232) : toldV x = if fitB x then x else 0 := by
 unfold toldV
 rw [toldB_eq x h]
 cases hf : fitB x
 · rfl
 · simp only [if_true]
   unfold fitB at hf
   simp at hf
   unfold sg64
   omega

/-! ### For regions that draw their order: a pair of cells, and that of what was there nothing has turned -/

open Go.RowKit

/-- A digit. -/
def dgB (c : UInt8) : Bool := decide (48 ≤ c.toNat ∧ c.toNat ≤ 57)
/-- What digits say. -/
def val (l : List UInt8) : Nat := l.foldl (fun n c => n * 10 + (c.toNat - 48)) 0
/-- Digits alone, one to forty of them. -/
def okD (l : List UInt8) : Bool := decide (1 ≤ l.length ∧ l.length ≤ 40) && l.all dgB
/-- Noughts. -/
def zs (n : Nat) : List UInt8 := List.replicate n 48
/-- A minus ahead. -/
def minusB (l : List UInt8) : Bool := l.head? == some 45
/-- What stands behind it. -/
def sizeL (l : List UInt8) : List UInt8 := if minusB l then l.tail else l
/-- Ahead of the first dot; behind it; whether there is one. -/
def cutA (l : List UInt8) : List UInt8 := l.takeWhile (fun c => c != 46)
def cutB (l : List UInt8) : List UInt8 := (l.dropWhile (fun c => c != 46)).tail
def dotB (l : List UInt8) : Bool := l.any (fun c => c == 46)
/-- The digits that count, and whether the rest rounds up. -/
def four (b : List UInt8) : List UInt8 := (b ++ zs 5).take 4
def fifth (b : List UInt8) : UInt8 := (b ++ zs 5).getD 4 0
def rndN (b : List UInt8) : Nat := if 53 ≤ (fifth b).toNat then 1 else 0
/-- What a numeral's two parts say, in ten thousandths. -/
def nv (a b : List UInt8) : Nat := val (a ++ four b) + rndN b
/-- Is it a numeral; what does it say; and what is answered. -/
def numB (l : List UInt8) : Bool := okD (cutA (sizeL l)) && (!dotB (sizeL l) || okD (cutB (sizeL l)))
def numN (l : List UInt8) : Nat := nv (cutA (sizeL l)) (cutB (sizeL l))
def rdK (l : List UInt8) : Int := if numB l then (if numN l ≤ 9223372036854775807 then 1 else 2) else 0
def rdV (l : List UInt8) : Int := if numB l && decide (numN l ≤ 9223372036854775807) then (if minusB l then -(numN l : Int) else numN l) else 0

theorem val_snoc (l : List UInt8) (c : UInt8) : val (l ++ [c]) = val l * 10 + (c.toNat - 48) := by simp [val, List.foldl_append]
theorem val_from (b : List UInt8) (n : Nat) : b.foldl (fun n c => n * 10 + (c.toNat - 48)) n = n * 10 ^ b.length + val b := by
 induction b generalizing n with
 | nil => simp [val]
 | cons c b ih =>
   simp only [val, List.foldl_cons, List.length_cons] at ih ⊢
   rw [ih, ih (0 * 10 + _), Nat.pow_succ, Nat.add_mul, Nat.mul_assoc, Nat.mul_comm 10 (10 ^ b.length), Nat.zero_mul, Nat.zero_add]
   omega
theorem val_append (a b : List UInt8) : val (a ++ b) = val a * 10 ^ b.length + val b := by
 unfold val; rw [List.foldl_append, val_from]; rfl
theorem dg_bd {c : UInt8} (h : dgB c = true) : 48 ≤ c.toNat ∧ c.toNat ≤ 57 := by simpa [dgB] using h
theorem val_mono (l : List UInt8) (k : Nat) : val (l.take k) ≤ val l := by
 have : l = l.take k ++ l.drop k := (List.take_append_drop k l).symm
 rw [this, val_append]
 simp only [List.take_append_drop]
 have hp : 1 ≤ 10 ^ (l.drop k).length := Nat.one_le_pow _ _ (by decide)
 have := Nat.le_mul_of_pos_right (val (l.take k)) hp
 omega
theorem val_take_succ (l : List UInt8) (k : Nat) (h : k < l.length) : val (l.take (k + 1)) = val (l.take k) * 10 + (l[k].toNat - 48) := by
 rw [List.take_succ_eq_append_getElem h, val_snoc]

theorem all_zs (n : Nat) : (zs n).all dgB = true := by
 rw [List.all_eq_true]; intro x hx; rw [(List.mem_replicate.1 hx).2]; rfl
open Go.Lib in
open Go.Lib in
open Go.Lib in

open Go.RowKit
set_option maxHeartbeats 400000

theorem can_any (a : Int) (w : World) : Calls Tryd.prog 40 #[.int .i64 a] w fun e w' => e = .returned (.bool (canB a)) ∧ w' = w := by
 go_enter Tryd.func40, Tryd.ntmps40
 go_wp2
 go_ret
 exact ⟨rfl, rfl⟩
theorem rcan_any (a : Int) (w : World) : Calls Tryd.prog 31 #[.int .i64 a] w fun e w' => e = .returned (.bool (canB a)) ∧ w' = w := by
 go_enter Tryd.func31, Tryd.ntmps31
 go_wp2
 go_ret
 exact ⟨rfl, rfl⟩
theorem upper_any (a : Int) (ha : I64 a) (w : World) : Calls Tryd.prog 70 #[.int .i64 a] w fun e w' => e = .returned (.int .u64 (up64 a)) ∧ w' = w := by
 obtain ⟨_, _⟩ := ha
 have h : IntKind.u64.wrap (a / 9223372036854775808) = up64 a := by rw [wrapU]; unfold up64; split <;> omega
 go_enter Tryd.func70, Tryd.ntmps70
 go_wp2
 go_ret
 exact ⟨rfl, rfl⟩
theorem add64 (x y c : Int) (hx : 0 ≤ x) (hy : 0 ≤ y) (hc0 : 0 ≤ c) (hc : c ≤ 1) (w : World) : (callFunc 71 #[.int .u64 x, .int .u64 y, .int .u64 c]).run Tryd.prog w =
   .ok (.value (.tuple #[.int .u64 ((x + y + c) % 18446744073709551616), .int .u64 ((x + y + c) / 18446744073709551616)])) w := by
 rw [run_callFunc_extern Tryd.func71 (by kernel_rfl) (by kernel_rfl) (by kernel_rfl) (e := add64Entry) (by kernel_rfl), run_add64 x y c hx hy hc0 hc]
 rfl
theorem add64_0 (x y : Int) (hx : 0 ≤ x) (hy : 0 ≤ y) (w : World) : (callFunc 71 #[.int .u64 x, .int .u64 y, .int .u64 0]).run Tryd.prog w =
   .ok (.value (.tuple #[.int .u64 ((x + y) % 18446744073709551616), .int .u64 ((x + y) / 18446744073709551616)])) w := by
 simpa using add64 x y 0 hx hy (Int.le_refl 0) (by decide) w
/-! ### fix.numbers, over one number and over two -/
theorem numbers_2 (a b : Int) (blk : Nat) (w : World) (h1 : w.cell? ⟨blk, 0, none⟩ = some (.int .i64 a)) (h2 : w.cell? ⟨blk, 1, none⟩ = some (.int .i64 b)) : Calls Tryd.prog 63 #[.slice (some ⟨blk, 0, none⟩) 2 2] w fun e w' => e = .returned (.bool (canB a && canB b)) ∧ w' = w := by
 cases ha : canB a <;> cases hb : canB b
 all_goals
   go_enter Tryd.func63, Tryd.ntmps63
   go_wp2
   refine wp_loop_rounds 3 ?_
   repeat (rw [rounds_succ]; go_wp2_with (go_at_call 40; refine (can_any _ _).mono ?_; rintro e w' ⟨rfl, rfl⟩))
   go_ret
   exact ⟨rfl, rfl⟩
theorem numbers_1 (a : Int) (blk : Nat) (w : World) (h1 : w.cell? ⟨blk, 0, none⟩ = some (.int .i64 a)) : Calls Tryd.prog 63 #[.slice (some ⟨blk, 0, none⟩) 1 1] w fun e w' => e = .returned (.bool (canB a)) ∧ w' = w := by
 cases ha : canB a
 all_goals
   go_enter Tryd.func63, Tryd.ntmps63
   go_wp2
   refine wp_loop_rounds 2 ?_
   repeat (rw [rounds_succ]; go_wp2_with (go_at_call 40; refine (can_any _ _).mono ?_; rintro e w' ⟨rfl, rfl⟩))
   go_ret
   exact ⟨rfl, rfl⟩

/-! ### fix.Plus, fix.Less -/
theorem plus_acc (x a : Int) (h3 : I64 a) (w : World) : Calls Tryd.prog 65 #[.agg #[.int .i64 (hiOf x), .int .u64 (loOf x)], .int .i64 a] w fun e w' => e = .returned (.agg #[.int .i64 (hiOf (x + a)), .int .u64 (loOf (x + a))]) ∧ Ext w w' := by
 obtain ⟨a1, a2⟩ := hi_bd x; obtain ⟨b1, b2⟩ := lo_bd x
 have p1 := plus_lo x a
 have p2 := plus_hi x a h3
 obtain ⟨c1, c2⟩ := h3
 have hw : 0 ≤ IntKind.u64.wrap a ∧ IntKind.u64.wrap a < 18446744073709551616 := by rw [wrapU]; omega
 have k1 := fun w => add64_0 (loOf x) (IntKind.u64.wrap a) b1 hw.1 w
 have k2 := fun w => add64 (IntKind.u64.wrap (hiOf x)) (up64 a) ((loOf x + IntKind.u64.wrap a) / 18446744073709551616) (by rw [wrapU]; omega) (up_bd a).1 (by omega) (by omega) w
 generalize hH : hiOf (x + a) = H at *
 generalize hL : loOf (x + a) = L at *
 clear hH hL
 go_enter Tryd.func65, Tryd.ntmps65
 go_wp2
 go_quiet ((go_at_call 70; exact Calls.quiet_of_same (upper_any _ ⟨c1, c2⟩ _)))
 go_wp2
 simp [bodyPost, results, Tryd.results65, go_sem]
 repeat (first | exact Ext.refl _ | apply Ext.drewN | apply Ext.drew | apply Ext.alloc | refine Ext.setCell ?_ (by simp) _)
/-! ### the document's words of 128 bits -/

open Go.RowKit
set_option maxHeartbeats 400000

open Go.RowKit
set_option maxHeartbeats 400000

theorem told_acc (x : Int) (w : World) : Calls Tryd.prog 64 #[.agg #[.int .i64 (hiOf x), .int .u64 (loOf x)]] w fun e w' => e = .returned (.tuple #[.int .i64 (toldV x), .bool (toldB x)]) ∧ Ext w w' := by
 have p1 := uhi_hiOf x
 have p3 := sg_lo x
 obtain ⟨a1, a2⟩ := hi_bd x; obtain ⟨b1, b2⟩ := lo_bd x
 have hs := sg_bd x
 cases hn : (uhi x != up64 (sg64 x))
 · have ht : toldB x = canB (sg64 x) := by unfold toldB; simp at hn; simp [hn]
   have HT : Hid (toldB x = canB (sg64 x)) := ht
   clear ht
   cases hc : canB (sg64 x)
   all_goals
     have HC : Hid (canB (sg64 x) = _) := hc
     go_enter Tryd.func64, Tryd.ntmps64
     go_wp2
     go_region_held3 (fun w' => Ext w w' ∧ w'.cell? ⟨w.heap.size, 0, none⟩ = some (.int .i64 (hiOf x)))
       (first
         | assumption
         | (refine ⟨((Ext.refl _).alloc _).drew, ?_⟩ ; simp [go_sem]; done)
         | (refine ⟨(((Ext.refl _).alloc _).alloc _).drew, ?_⟩ ; simp [go_sem, World.cell?_alloc_past]; done))
       (first
         | (go_at_call 70; refine (upper_any _ hs _).mono ?_; rintro e w' ⟨rfl, rfl⟩)
         | (go_at_call 63; refine Calls.mono (numbers_1 (sg64 x) (w.heap.size + 1) _ (by simp [go_sem])) ?_; rintro e w' ⟨rfl, rfl⟩))
     go_wp2
     go_ret2
     exact ⟨ret_ib (by unfold toldV; rw [HT.out, HC.out]; rfl) (by rw [HT.out, HC.out]), (((Ext.refl _).alloc _).alloc _).drew⟩
 · have HT : Hid (toldB x = false) := by show toldB x = false; unfold toldB; simp at hn; simp [hn]
   go_enter Tryd.func64, Tryd.ntmps64
   go_wp2
   go_quiet ((go_at_call 70; exact Calls.quiet_of_same (upper_any _ hs _)))
   go_wp2
   go_ret2
   exact ⟨ret_ib (by unfold toldV; rw [HT.out]; rfl) (by rw [HT.out]), ((Ext.refl _).alloc _).drewN _⟩

open Go.RowKit
set_option maxHeartbeats 400000

/-- The sum of two numbers: is it one, and which. -/
def addB (a b : Int) : Bool := (canB a && canB b) && fitB (a + b)
def addV (a b : Int) : Int := if addB a b then a + b else 0
def subB (a b : Int) : Bool := (canB a && canB b) && fitB (a - b)
def subV (a b : Int) : Int := if subB a b then a - b else 0
theorem addB_no {a b : Int} (h : (canB a && canB b) = false) : addB a b = false := by unfold addB; rw [h]; rfl
theorem addV_no {a b : Int} (h : (canB a && canB b) = false) : addV a b = 0 := by unfold addV; rw [addB_no h]; rfl
theorem addB_yes {a b : Int} (ha : I64 a) (hb : I64 b) (h : (canB a && canB b) = true) : toldB (a + b) = addB a b := by
 obtain ⟨_, _⟩ := ha; obtain ⟨_, _⟩ := hb
 unfold addB; rw [h, toldB_eq _ (by omega)]; simp
theorem addV_yes {a b : Int} (ha : I64 a) (hb : I64 b) (h : (canB a && canB b) = true) : toldV (a + b) = addV a b := by
 have := addB_yes ha hb h
 obtain ⟨_, _⟩ := ha; obtain ⟨_, _⟩ := hb
 unfold addV; rw [← this, toldV_eq _ (by omega), toldB_eq _ (by omega)]
theorem add_any (a b : Int) (ha : I64 a) (hb : I64 b) (w : World) : Calls Tryd.prog 60 #[.int .i64 a, .int .i64 b] w fun e w' => e = .returned (.tuple #[.int .i64 (addV a b), .bool (addB a b)]) ∧ Ext w w' := by
 cases hc : (canB a && canB b)
 · have HC := addB_no hc
   have HV := addV_no hc
   go_enter Tryd.func60, Tryd.ntmps60
   go_wp2_with (go_at_call 63; refine Calls.mono (numbers_2 a b w.heap.size _ (by simp [go_sem]) (by simp [go_sem])) ?_; rintro e w' ⟨rfl, rfl⟩)
   go_ret2
   exact ⟨ret_ib HV.symm HC.symm, (Ext.refl _).alloc _⟩
 · have HB : Hid (toldB (a + b) = addB a b) := addB_yes ha hb hc
   have HV : Hid (toldV (a + b) = addV a b) := addV_yes ha hb hc
   have P0 := fun W => plus_acc 0 a ha W
   have z1 : hiOf 0 = 0 := by decide
   have z2 : loOf 0 = 0 := by decide
   simp only [z1, z2, Int.zero_add] at P0
   clear z1 z2
   go_enter Tryd.func60, Tryd.ntmps60
   go_wp2_with (go_at_call 63; refine Calls.mono (numbers_2 a b w.heap.size _ (by simp [go_sem]) (by simp [go_sem])) ?_; rintro e w' ⟨rfl, rfl⟩)
   refine (P0 _).mono ?_
   rintro e w1 ⟨rfl, E1⟩
   go_wp2_with fail
   refine (plus_acc a b hb _).mono ?_
   rintro e w2 ⟨rfl, E2⟩
   go_wp2_with fail
   refine (told_acc (a + b) _).mono ?_
   rintro e w3 ⟨rfl, E3⟩
   go_wp2
   go_ret2
   exact ⟨ret_ib HV.out HB.out, (((Ext.refl _).alloc _).trans E1).trans (E2.trans E3)⟩

open Go.RowKit
set_option maxHeartbeats 1000000

theorem size_list (s : ByteArray) : s.data.toList.length = s.size := (Lib.size_eq s).symm
theorem get_list (s : ByteArray) (k : Nat) (h : k < s.size) : s.data.toList[k]'(by rw [size_list]; exact h) = s[k] := rfl
theorem all_take (l : List UInt8) (k : Nat) (h : k < l.length) : (l.take (k + 1)).all dgB = ((l.take k).all dgB && dgB l[k]) := by
 rw [List.take_succ_eq_append_getElem h, List.all_append]; simp
theorem okD_no (l : List UInt8) (h : l.length = 0 ∨ 40 < l.length) : okD l = false := by
 unfold okD; rw [Bool.and_eq_false_iff]; left; simp; omega
theorem okD_bad (l : List UInt8) (k : Nat) (hk : k < l.length) (h : dgB l[k] = false) : okD l = false := by
 unfold okD; rw [Bool.and_eq_false_iff]; right
 rw [List.all_eq_false]; exact ⟨l[k], List.getElem_mem hk, by simpa using h⟩
theorem okD_yes (l : List UInt8) (h1 : 1 ≤ l.length) (h2 : l.length ≤ 40) (h : l.all dgB = true) : okD l = true := by
 unfold okD; rw [h]; simp; omega
theorem dg_no {c : UInt8} (h : (c.toNat : Int) < 48 ∨ (57 : Int) < c.toNat) : dgB c = false := by unfold dgB; simp; omega
theorem dg_yes {c : UInt8} (h : ¬ (c.toNat : Int) < 48) (h' : ¬ (57 : Int) < c.toNat) : dgB c = true := by unfold dgB; simp; omega

theorem digits_any (s : ByteArray) (w : World) (hs : s.size ≤ maxLen) :
   Calls Tryd.prog 54 #[.string s] w fun e w' => e = .returned (.bool (okD s.data.toList)) ∧ w' = w := by
 unfold maxLen at hs
 have hl := size_list s
 by_cases h0 : s.size = 0
 · have H : Hid (okD s.data.toList = false) := okD_no _ (by omega)
   have he : s.toList.isEmpty = true := by rw [ByteArray.toList_eq]; exact List.isEmpty_iff.2 (List.length_eq_zero_iff.1 (by omega))
   go_enter Tryd.func54, Tryd.ntmps54
   go_wp2
   go_ret
   exact ⟨ret_bool H.out.symm, rfl⟩
 have he : s.toList.isEmpty = false := by rw [ByteArray.toList_eq]; exact Bool.eq_false_iff.2 fun h => h0 (by rw [← hl, List.isEmpty_iff.1 h]; rfl)
 by_cases h1 : 40 < s.size
 · have H : Hid (okD s.data.toList = false) := okD_no _ (by omega)
   go_enter Tryd.func54, Tryd.ntmps54
   go_wp2
   go_ret
   exact ⟨ret_bool H.out.symm, rfl⟩
 have HY : Hid (s.data.toList.all dgB = true → okD s.data.toList = true) := okD_yes _ (by omega) (by omega)
 go_enter Tryd.func54, Tryd.ntmps54
 go_wp2
 go_loop [13] (fun i => ∃ k : Nat, k ≤ s.size ∧ i = .int .i64 k ∧ (s.data.toList.take k).all dgB = true) (fun i => s.size - (intOf i).toNat)
 case atStart => exact ⟨0, Nat.zero_le _, rfl, rfl⟩
 case round =>
   obtain ⟨k, hk, rfl, ha⟩ := hrel
   have HA : Hid ((s.data.toList.take k).all dgB = true) := ha
   clear ha
   by_cases hlt : k < s.size
   · have HT : Hid ((s.data.toList.take (k + 1)).all dgB = ((s.data.toList.take k).all dgB && dgB s[k])) := all_take s.data.toList k (by omega)
     have HB : Hid (dgB s[k] = false → okD s.data.toList = false) := okD_bad s.data.toList k (by omega)
     by_cases c1 : (s[k].toNat : Int) < 48
     · go_wp2
       go_ret
       exact ⟨ret_bool (HB.out (dg_no (.inl c1))).symm, rfl⟩
     by_cases c2 : (57 : Int) < s[k].toNat
     · go_wp2
       go_ret
       exact ⟨ret_bool (HB.out (dg_no (.inr c2))).symm, rfl⟩
     · have HD : Hid (dgB s[k] = true) := dg_yes c1 c2
       go_wp2
       go_round
       case rel => exact ⟨k + 1, by omega, by go_num, by rw [HT.out, HA.out, HD.out]; rfl⟩
       case measure => simp [intOf]; omega
   · go_wp2
     go_ret
     exact ⟨ret_bool (HY.out (by have := HA.out; rwa [List.take_of_length_le (by omega)] at this)).symm, rfl⟩

/-- A list of digits, step by step. -/
theorem dig_at (l : List UInt8) (h : l.all dgB = true) (k : Nat) (hk : k < l.length) : 48 ≤ l[k].toNat ∧ l[k].toNat ≤ 57 :=
 dg_bd (List.all_eq_true.1 h _ (List.getElem_mem hk))
def whV (n : Nat) : Int := if n ≤ 9223372036854775807 then n else 0
def whB (n : Nat) : Bool := decide (n ≤ 9223372036854775807)
theorem wh_no {n : Nat} (h : 9223372036854775807 < n) : whV n = 0 ∧ whB n = false := ⟨by unfold whV; rw [if_neg (by omega)], by unfold whB; simp; omega⟩
theorem wh_yes {n : Nat} (h : n ≤ 9223372036854775807) : whV n = n ∧ whB n = true := ⟨by unfold whV; rw [if_pos h], by unfold whB; simp; omega⟩

theorem whole_any (s : ByteArray) (w : World) (hs : s.size ≤ 100) (ha : s.data.toList.all dgB = true) :
   Calls Tryd.prog 59 #[.string s] w fun e w' => e = .returned (.tuple #[.int .i64 (whV (val s.data.toList)), .bool (whB (val s.data.toList))]) ∧ w' = w := by
 have hl := size_list s
 have HA : Hid (∀ k (h : k < s.size), 48 ≤ s[k].toNat ∧ s[k].toNat ≤ 57) := fun k h => dig_at s.data.toList ha k (by omega)
 have HM : Hid (∀ k, val (s.data.toList.take k) ≤ val s.data.toList) := val_mono _
 clear ha
 go_enter Tryd.func59, Tryd.ntmps59
 go_wp2
 go_loop [4, 9] (fun n i => ∃ k : Nat, k ≤ s.size ∧ i = .int .i64 k ∧ ∃ v : Nat, v = val (s.data.toList.take k) ∧ v ≤ 9223372036854775807 ∧ n = .int .i64 v) (fun _ i => s.size - (intOf i).toNat)
 case atStart => exact ⟨0, Nat.zero_le _, rfl, 0, rfl, by omega, rfl⟩
 case round =>
   obtain ⟨k, hk, rfl, v, hv, hv', rfl⟩ := hrel
   have HV : Hid (v = val (s.data.toList.take k)) := hv
   clear hv
   have hv2 : (v : Int) ≤ 9223372036854775807 := by omega
   by_cases hlt : k < s.size
   · have HT : Hid (val (s.data.toList.take (k + 1)) = val (s.data.toList.take k) * 10 + (s[k].toNat - 48)) := val_take_succ s.data.toList k (by omega)
     obtain ⟨d1, d2⟩ := HA.out k hlt
     have d3 : (48 : Int) ≤ s[k].toNat := by omega
     have d4 : (s[k].toNat : Int) ≤ 57 := by omega
     clear hv'
     by_cases g : (9223372036854775807 - ((s[k].toNat : Int) - 48)) / 10 < (v : Int)
     · have HG : Hid (9223372036854775807 < val s.data.toList) := by
         show _ < _; have := HM.out (k + 1); rw [HT.out, ← HV.out] at this; omega
       go_wp2
       go_ret2
       exact ⟨ret_ib (wh_no HG.out).1.symm (wh_no HG.out).2.symm, rfl⟩
     · have g2 : 10 * (v : Int) + ((s[k].toNat : Int) - 48) ≤ 9223372036854775807 := by omega
       go_wp2
       go_round
       case rel => exact ⟨k + 1, by omega, by go_num, 10 * v + (s[k].toNat - 48), by rw [HT.out, ← HV.out]; omega, by omega, by go_num⟩
       case measure => simp [intOf]; omega
   · go_wp2
     go_ret2
     have e : v = val s.data.toList := by rw [HV.out, List.take_of_length_le (by omega)]
     rw [← e]
     exact ⟨ret_ib (wh_yes hv').1.symm (wh_yes hv').2.symm, rfl⟩
end Go.Proofs.YteaoeichgibgiaaDoor
