/-
 Plain arithmetic of 64 and 128 bits for the walks over package fix and the document's answers: no program in sight.
 Decimal numerals as lists of bytes: which are numerals, what they say, how numbers are written. Plain mathematics: no program in sight.
 Contracts of the small functions of package fix and of the document's answers: sizes, numbers, sums of 128 bits.
 Contracts of the document's answers: a sum and a number, a sum less a number (128 bits).
-/
import Derived.WalkKit
import Derived.WalkSpells
import Derived.Deep.QuietTactic
import Derived.BigQuiet
import Derived.Shelf.Spec.BitsCarry
import Derived.Deep.RegionHeld3
import Derived.Lib.ItoaNum
import Derived.Lib.Strings
import Derived.Test.YtalejeknigbhjaaGreatDoorRows
import Derived.Laws.Externs
namespace Go.Proofs.YtalejeknigbhjaaGreatDoor
open Go.RowKit

/-- Is it a number? (Every int64 but the least.) -/
def canB (a : Int) : Bool := a != -9223372036854775808
/-- A number without its sign. -/
def absI (a : Int) : Int := if a < 0 then -a else a
/-- The upper half of a in 128 bits. -/
def up64 (a : Int) : Int := if a < 0 then 18446744073709551615 else 0
/-- The borrow. -/
def bor (x y : Int) : Int := if x < y then 1 else 0
/-- x as a signed number of 64 bits. -/
def sg64 (x : Int) : Int := (x + 9223372036854775808) % 18446744073709551616 - 9223372036854775808
/-- The two halves of a sum. -/
def hiOf (x : Int) : Int := sg64 (x / 18446744073709551616)
def loOf (x : Int) : Int := x % 18446744073709551616
/-- An int64. -/
def I64 (a : Int) : Prop := -9223372036854775808 ≤ a ∧ a ≤ 9223372036854775807
/-- A uint64. -/
def U64 (a : Int) : Prop := 0 ≤ a ∧ a < 18446744073709551616

theorem i64_of_wf {x : Int} (h : (Lit.int .i64 x).wf = true) : I64 x := by
 simp [Lit.wf, IntKind.min, IntKind.max, IntKind.signed, IntKind.bits] at h
 exact ⟨by omega, by omega⟩
theorem ret_int {k : IntKind} {a b : Int} (h : a = b) : Ending.returned (.int k a) = .returned (.int k b) := by rw [h]
theorem ret_bool {a b : Bool} (h : a = b) : Ending.returned (.bool a) = .returned (.bool b) := by rw [h]
theorem ret_ib {k : IntKind} {a b : Int} {x y : Bool} (h : a = b) (g : x = y) : Ending.returned (.tuple #[.int k a, .bool x]) = .returned (.tuple #[.int k b, .bool y]) := by rw [h, g]
theorem ret_ii {k l : IntKind} {a b x y : Int} (h : a = b) (g : x = y) : Ending.returned (.tuple #[.int k a, .int l x]) = .returned (.tuple #[.int k b, .int l y]) := by rw [h, g]
theorem wrapU (x : Int) : IntKind.u64.wrap x = x % 18446744073709551616 := IntKind.wrap_u64 x

def uhi (x : Int) : Int := (x / 18446744073709551616) % 18446744073709551616
theorem hi_bd (x : Int) : I64 (hiOf x) := by unfold hiOf sg64; exact ⟨by omega, by omega⟩
theorem lo_bd (x : Int) : U64 (loOf x) := by unfold loOf; exact ⟨by omega, by omega⟩
theorem uhi_bd (x : Int) : U64 (uhi x) := by unfold uhi; exact ⟨by omega, by omega⟩
theorem up_bd (a : Int) : 0 ≤ up64 a ∧ up64 a < 18446744073709551616 := by unfold up64; split <;> omega
theorem bor_bd (x y : Int) : 0 ≤ bor x y ∧ bor x y ≤ 1 := by unfold bor; split <;> omega
theorem plus_lo (x a : Int) : (loOf x + IntKind.u64.wrap a) % 18446744073709551616 = loOf (x + a) := by rw [wrapU]; unfold loOf; omega
theorem plus_hi (x a : Int) (h : I64 a) : wrap64 ((IntKind.u64.wrap (hiOf x) + up64 a + (loOf x + IntKind.u64.wrap a) / 18446744073709551616) % 18446744073709551616) = hiOf (x + a) := by
 obtain ⟨_, _⟩ := h
 simp only [wrapU]; unfold wrap64 hiOf loOf up64 sg64; split <;> omega
theorem less_lo (x a : Int) : (loOf x - IntKind.u64.wrap a) % 18446744073709551616 = loOf (x - a) := by rw [wrapU]; unfold loOf; omega
theorem less_hi (x a : Int) (h : I64 a) : wrap64 ((IntKind.u64.wrap (hiOf x) - up64 a - bor (loOf x) (IntKind.u64.wrap a)) % 18446744073709551616) = hiOf (x - a) := by
 obtain ⟨_, _⟩ := h
 simp only [wrapU]; unfold wrap64 hiOf loOf up64 sg64 bor; split <;> split <;> omega
theorem uhi_hiOf (x : Int) : IntKind.u64.wrap (hiOf x) = uhi x := by rw [wrapU]; unfold hiOf uhi sg64; omega
theorem hiOf_uhi (x : Int) : wrap64 (uhi x) = hiOf x := by unfold wrap64 hiOf uhi sg64; omega
theorem sg_lo (x : Int) : wrap64 (loOf x) = sg64 x := by unfold wrap64 loOf sg64; omega
theorem sg_bd (x : Int) : I64 (sg64 x) := by unfold sg64; exact ⟨by omega, by omega⟩

/-- The world behind a call: of what was there nothing has turned. -/
def Ext (w w' : World) : Prop := Below w.heap.size w w'
theorem Ext.refl (w : World) : Ext w w := Below.refl _ _
theorem Ext.trans {a b c : World} (h : Ext a b) (k : Ext b c) : Ext a c := Below.trans h (Below.mono k h.size)
theorem Ext.drew {a w : World} (h : Ext a w) : Ext a w.drew := Below.drew h
theorem Ext.drewN {a w : World} (h : Ext a w) (n : Nat) : Ext a (w.drewN n) := h.trans ⟨rfl, rfl, rfl, Nat.le_refl _, fun _ _ => rfl⟩
theorem Ext.alloc {a w : World} (h : Ext a w) (o : Obj) : Ext a (w.alloc o) := Below.alloc h h.size o
theorem Ext.setCell {a w : World} (h : Ext a w) {p : Addr} (hp : a.heap.size ≤ p.block) (u : Value) : Ext a (w.setCell p u) := Below.setCell h hp u
theorem Ext.cell {w w1 : World} (hb : Ext w w1) : (∀ b o, b < w.heap.size → w1.cell? ⟨b, o, none⟩ = w.cell? ⟨b, o, none⟩) ∧ (∀ b o, b < w.heap.size → w1.frozen? ⟨b, o, none⟩ = w.frozen? ⟨b, o, none⟩) :=
 ⟨fun b o h => Below.cell hb (p := ⟨b, o, none⟩) h, fun b o h => Below.frozen hb (p := ⟨b, o, none⟩) h⟩
theorem Ext.sz {w w' : World} (h : Ext w w') : w.heap.size ≤ w'.heap.size := h.size

/-- A sum as a number: is it one, and which. -/
def toldB (x : Int) : Bool := (uhi x == up64 (sg64 x)) && canB (sg64 x)
def toldV (x : Int) : Int := if toldB x then sg64 x else 0
/-- Is x a number? -/
def fitB (x : Int) : Bool := decide (-9223372036854775808 < x ∧ x < 9223372036854775808)
theorem toldB_eq (x : Int) (h : -36893488147419103232 ≤ x ∧ x ≤ 36893488147419103232) : toldB x = fitB x := by
 unfold toldB fitB canB
 rw [Bool.eq_iff_iff]
 simp
 unfold uhi up64 sg64
 constructor
 · rintro ⟨h1, h2⟩
   split at h1 <;> omega
 · intro h1
   constructor
   · split <;> omega
   · omega
theorem toldV_eq (x : Int) (h : -36893488147419103232 ≤ x ∧ x ≤ 36893488147419103232) : toldV x = if fitB x then x else 0 := by
 unfold toldV
 rw [toldB_eq x h]
 cases hf : fitB x
 · rfl
 · simp only [if_true]
   unfold fitB at hf
   simp at hf
   unfold sg64
   omega

/-! ### For regions that draw their order: a pair of cells, and that of what was there nothing has turned -/
theorem keep2 {w W w' : World} {b n : Nat} {u v : Value} (h : (Ext w W ∧ b + n < W.heap.size) ∧ W.cell? ⟨b, 0, none⟩ = some u ∧ W.cell? ⟨b, 1, none⟩ = some v) (e : Ext W w') :
   (Ext w w' ∧ b + n < w'.heap.size) ∧ w'.cell? ⟨b, 0, none⟩ = some u ∧ w'.cell? ⟨b, 1, none⟩ = some v :=
 ⟨⟨h.1.1.trans e, Nat.lt_of_lt_of_le h.1.2 e.size⟩, (e.cell.1 b 0 (by omega)).trans h.2.1, (e.cell.1 b 1 (by omega)).trans h.2.2⟩
theorem keepS {w W : World} {b m : Nat} {u v : Value} (h : (Ext w W ∧ b + m < W.heap.size) ∧ W.cell? ⟨b, 0, none⟩ = some u ∧ W.cell? ⟨b, 1, none⟩ = some v) {n o : Nat} {x : Value} (hn : w.heap.size < n) (hb : b < n) :
   (Ext w (W.setCell ⟨n, o, none⟩ x) ∧ b + m < (W.setCell ⟨n, o, none⟩ x).heap.size) ∧ (W.setCell ⟨n, o, none⟩ x).cell? ⟨b, 0, none⟩ = some u ∧ (W.setCell ⟨n, o, none⟩ x).cell? ⟨b, 1, none⟩ = some v :=
 ⟨⟨h.1.1.setCell (Nat.le_of_lt hn) _, by simpa [World.setCell] using h.1.2⟩, by rw [World.cell?_setCell_far _ _ _ _ (by simp; omega)]; exact h.2.1, by rw [World.cell?_setCell_far _ _ _ _ (by simp; omega)]; exact h.2.2⟩

open Go.RowKit

/-- A digit. -/
def dgB (c : UInt8) : Bool := decide (48 ≤ c.toNat ∧ c.toNat ≤ 57)
/-- What digits say. -/
def val (l : List UInt8) : Nat := l.foldl (fun n c => n * 10 + (c.toNat - 48)) 0
/-- Digits alone, one to forty of them. -/
def okD (l : List UInt8) : Bool := decide (1 ≤ l.length ∧ l.length ≤ 40) && l.all dgB
/-- Noughts. -/
def zs (n : Nat) : List UInt8 := List.replicate n 48
/-- A minus ahead. -/
def minusB (l : List UInt8) : Bool := l.head? == some 45
/-- What stands behind it. -/
def sizeL (l : List UInt8) : List UInt8 := if minusB l then l.tail else l
/-- Ahead of the first dot; behind it; whether there is one. -/
def cutA (l : List UInt8) : List UInt8 := l.takeWhile (fun c => c != 46)
def cutB (l : List UInt8) : List UInt8 := (l.dropWhile (fun c => c != 46)).tail
def dotB (l : List UInt8) : Bool := l.any (fun c => c == 46)
/-- The digits that count, and whether the rest rounds up. -/
def four (b : List UInt8) : List UInt8 := (b ++ zs 5).take 4
def fifth (b : List UInt8) : UInt8 := (b ++ zs 5).getD 4 0
def rndN (b : List UInt8) : Nat := if 53 ≤ (fifth b).toNat then 1 else 0
/-- What a numeral's two parts say, in ten thousandths. -/
def nv (a b : List UInt8) : Nat := val (a ++ four b) + rndN b
/-- Is it a numeral; what does it say; and what is answered. -/
def numB (l : List UInt8) : Bool := okD (cutA (sizeL l)) && (!dotB (sizeL l) || okD (cutB (sizeL l)))
def numN (l : List UInt8) : Nat := nv (cutA (sizeL l)) (cutB (sizeL l))
def rdK (l : List UInt8) : Int := if numB l then (if numN l ≤ 9223372036854775807 then 1 else 2) else 0
def rdV (l : List UInt8) : Int := if numB l && decide (numN l ≤ 9223372036854775807) then (if minusB l then -(numN l : Int) else numN l) else 0

theorem val_snoc (l : List UInt8) (c : UInt8) : val (l ++ [c]) = val l * 10 + (c.toNat - 48) := by simp [val, List.foldl_append]
theorem val_from (b : List UInt8) (n : Nat) : b.foldl (fun n c => n * 10 + (c.toNat - 48)) n = n * 10 ^ b.length + val b := by
 induction b generalizing n with
 | nil => simp [val]
 | cons c b ih =>
   simp only [val, List.foldl_cons, List.length_cons] at ih ⊢
   rw [ih, ih (0 * 10 + _), Nat.pow_succ, Nat.add_mul, Nat.mul_assoc, Nat.mul_comm 10 (10 ^ b.length), Nat.zero_mul, Nat.zero_add]
   omega
theorem val_append (a b : List UInt8) : val (a ++ b) = val a * 10 ^ b.length + val b := by
 unfold val; rw [List.foldl_append, val_from]; rfl
theorem dg_bd {c : UInt8} (h : dgB c = true) : 48 ≤ c.toNat ∧ c.toNat ≤ 57 := by simpa [dgB] using h
theorem val_zs (n : Nat) : val (zs n) = 0 := by
 induction n with
 | zero => rfl
 | succ n ih => rw [zs, List.replicate_succ', val_snoc]; unfold zs at ih; rw [ih]; rfl
theorem val_mono (l : List UInt8) (k : Nat) : val (l.take k) ≤ val l := by
 have : l = l.take k ++ l.drop k := (List.take_append_drop k l).symm
 rw [this, val_append]
 simp only [List.take_append_drop]
 have hp : 1 ≤ 10 ^ (l.drop k).length := Nat.one_le_pow _ _ (by decide)
 have := Nat.le_mul_of_pos_right (val (l.take k)) hp
 omega
theorem val_take_succ (l : List UInt8) (k : Nat) (h : k < l.length) : val (l.take (k + 1)) = val (l.take k) * 10 + (l[k].toNat - 48) := by
 rw [List.take_succ_eq_append_getElem h, val_snoc]

theorem all_zs (n : Nat) : (zs n).all dgB = true := by
 rw [List.all_eq_true]; intro x hx; rw [(List.mem_replicate.1 hx).2]; rfl
theorem len_zs (n : Nat) : (zs n).length = n := by simp [zs]
theorem dg_ofNat {d : Nat} (h : d < 10) : dgB (UInt8.ofNat (48 + d)) = true ∧ (UInt8.ofNat (48 + d)).toNat = 48 + d := by
 have e : (UInt8.ofNat (48 + d)).toNat = 48 + d := by simp [UInt8.toNat_ofNat]; omega
 exact ⟨by unfold dgB; rw [e]; simp; omega, e⟩
open Go.Lib in
open Go.Lib in
open Go.Lib in
theorem dec_len (u k : Nat) (h : u < 10 ^ (k + 1)) : 1 ≤ (decDigits u).length ∧ (decDigits u).length ≤ k + 1 := by
 rw [decDigits_length]
 refine ⟨nDigits_pos u, ?_⟩
 induction k generalizing u with
 | zero => rw [nDigits_small (by simpa using h)]; omega
 | succ k ih =>
   by_cases hu : u < 10
   · rw [nDigits_small hu]; omega
   · rw [nDigits_big hu]
     have := ih (u / 10) (by rw [Nat.pow_succ] at h; omega)
     omega

open Go.RowKit
set_option maxHeartbeats 400000

theorem can_any (a : Int) (w : World) : Calls Tryz.prog 57 #[.int .i64 a] w fun e w' => e = .returned (.bool (canB a)) ∧ w' = w := by
 go_enter Tryz.func57, Tryz.ntmps57
 go_wp2
 go_ret
 exact ⟨rfl, rfl⟩
theorem rcan_any (a : Int) (w : World) : Calls Tryz.prog 31 #[.int .i64 a] w fun e w' => e = .returned (.bool (canB a)) ∧ w' = w := by
 go_enter Tryz.func31, Tryz.ntmps31
 go_wp2
 go_ret
 exact ⟨rfl, rfl⟩
theorem upper_any (a : Int) (ha : I64 a) (w : World) : Calls Tryz.prog 131 #[.int .i64 a] w fun e w' => e = .returned (.int .u64 (up64 a)) ∧ w' = w := by
 obtain ⟨_, _⟩ := ha
 have h : IntKind.u64.wrap (a / 9223372036854775808) = up64 a := by rw [wrapU]; unfold up64; split <;> omega
 go_enter Tryz.func131, Tryz.ntmps131
 go_wp2
 go_ret
 exact ⟨rfl, rfl⟩
theorem size_any (a : Int) (ha : I64 a) (w : World) : Calls Tryz.prog 114 #[.int .i64 a] w fun e w' => e = .returned (.int .u64 (absI a)) ∧ w' = w := by
 obtain ⟨_, _⟩ := ha
 go_enter Tryz.func114, Tryz.ntmps114
 go_wp2
 all_goals go_ret
 · exact ⟨ret_int (by rw [wrapU, wrapU]; unfold absI; omega), rfl⟩
 · exact ⟨ret_int (by unfold absI; omega), rfl⟩
theorem rsize_any (a : Int) (ha : I64 a) (w : World) : Calls Tryz.prog 51 #[.int .i64 a] w fun e w' => e = .returned (.int .u64 (absI a)) ∧ w' = w := by
 obtain ⟨_, _⟩ := ha
 go_enter Tryz.func51, Tryz.ntmps51
 go_wp2
 all_goals go_ret
 · exact ⟨ret_int (by unfold absI; omega), rfl⟩
 · exact ⟨ret_int (by unfold absI; omega), rfl⟩

theorem add64 (x y c : Int) (hx : 0 ≤ x) (hy : 0 ≤ y) (hc0 : 0 ≤ c) (hc : c ≤ 1) (w : World) : (callFunc 143 #[.int .u64 x, .int .u64 y, .int .u64 c]).run Tryz.prog w =
   .ok (.value (.tuple #[.int .u64 ((x + y + c) % 18446744073709551616), .int .u64 ((x + y + c) / 18446744073709551616)])) w := by
 rw [run_callFunc_extern Tryz.func143 (by kernel_rfl) (by kernel_rfl) (by kernel_rfl) (e := add64Entry) (by kernel_rfl), run_add64 x y c hx hy hc0 hc]
 rfl
theorem add64_0 (x y : Int) (hx : 0 ≤ x) (hy : 0 ≤ y) (w : World) : (callFunc 143 #[.int .u64 x, .int .u64 y, .int .u64 0]).run Tryz.prog w =
   .ok (.value (.tuple #[.int .u64 ((x + y) % 18446744073709551616), .int .u64 ((x + y) / 18446744073709551616)])) w := by
 simpa using add64 x y 0 hx hy (Int.le_refl 0) (by decide) w
theorem sub64 (x y b : Int) (hx : 0 ≤ x) (hy : 0 ≤ y) (hy' : y < 18446744073709551616) (hb0 : 0 ≤ b) (hb : b ≤ 1) (w : World) : (callFunc 149 #[.int .u64 x, .int .u64 y, .int .u64 b]).run Tryz.prog w =
   .ok (.value (.tuple #[.int .u64 ((x - y - b) % 18446744073709551616), .int .u64 (bor x (y + b))])) w := by
 obtain ⟨x, rfl⟩ := Int.eq_ofNat_of_zero_le hx
 obtain ⟨y, rfl⟩ := Int.eq_ofNat_of_zero_le hy
 obtain ⟨b, rfl⟩ := Int.eq_ofNat_of_zero_le hb0
 have e1 : (((x + 18446744073709551616 - y - b) % 18446744073709551616 : Nat) : Int) = ((x : Int) - y - b) % 18446744073709551616 := by omega
 have e2 : ((if x < y + b then 1 else 0 : Nat) : Int) = bor x (y + b) := by unfold bor; split <;> split <;> omega
 rw [← e1, ← e2, run_callFunc_extern Tryz.func149 (by kernel_rfl) (by kernel_rfl) (by kernel_rfl) (e := sub64Entry) (by kernel_rfl), run_sub64 x y b (by omega)]
 rfl
theorem sub64_0 (x y : Int) (hx : 0 ≤ x) (hy : 0 ≤ y) (hy' : y < 18446744073709551616) (w : World) : (callFunc 149 #[.int .u64 x, .int .u64 y, .int .u64 0]).run Tryz.prog w =
   .ok (.value (.tuple #[.int .u64 ((x - y) % 18446744073709551616), .int .u64 (bor x y)])) w := by
 simpa using sub64 x y 0 hx hy hy' (Int.le_refl 0) (by decide) w

/-! ### fix.numbers, over one number and over two -/
theorem numbers_2 (a b : Int) (blk : Nat) (w : World) (h1 : w.cell? ⟨blk, 0, none⟩ = some (.int .i64 a)) (h2 : w.cell? ⟨blk, 1, none⟩ = some (.int .i64 b)) : Calls Tryz.prog 112 #[.slice (some ⟨blk, 0, none⟩) 2 2] w fun e w' => e = .returned (.bool (canB a && canB b)) ∧ w' = w := by
 cases ha : canB a <;> cases hb : canB b
 all_goals
   go_enter Tryz.func112, Tryz.ntmps112
   go_wp2
   refine wp_loop_rounds 3 ?_
   repeat (rw [rounds_succ]; go_wp2_with (go_at_call 57; refine (can_any _ _).mono ?_; rintro e w' ⟨rfl, rfl⟩))
   go_ret
   exact ⟨rfl, rfl⟩
theorem numbers_1 (a : Int) (blk : Nat) (w : World) (h1 : w.cell? ⟨blk, 0, none⟩ = some (.int .i64 a)) : Calls Tryz.prog 112 #[.slice (some ⟨blk, 0, none⟩) 1 1] w fun e w' => e = .returned (.bool (canB a)) ∧ w' = w := by
 cases ha : canB a
 all_goals
   go_enter Tryz.func112, Tryz.ntmps112
   go_wp2
   refine wp_loop_rounds 2 ?_
   repeat (rw [rounds_succ]; go_wp2_with (go_at_call 57; refine (can_any _ _).mono ?_; rintro e w' ⟨rfl, rfl⟩))
   go_ret
   exact ⟨rfl, rfl⟩

/-! ### fix.Plus, fix.Less -/
theorem plus_acc (x a : Int) (h3 : I64 a) (w : World) : Calls Tryz.prog 130 #[.agg #[.int .i64 (hiOf x), .int .u64 (loOf x)], .int .i64 a] w fun e w' => e = .returned (.agg #[.int .i64 (hiOf (x + a)), .int .u64 (loOf (x + a))]) ∧ Ext w w' := by
 obtain ⟨a1, a2⟩ := hi_bd x; obtain ⟨b1, b2⟩ := lo_bd x
 have p1 := plus_lo x a
 have p2 := plus_hi x a h3
 obtain ⟨c1, c2⟩ := h3
 have hw : 0 ≤ IntKind.u64.wrap a ∧ IntKind.u64.wrap a < 18446744073709551616 := by rw [wrapU]; omega
 have k1 := fun w => add64_0 (loOf x) (IntKind.u64.wrap a) b1 hw.1 w
 have k2 := fun w => add64 (IntKind.u64.wrap (hiOf x)) (up64 a) ((loOf x + IntKind.u64.wrap a) / 18446744073709551616) (by rw [wrapU]; omega) (up_bd a).1 (by omega) (by omega) w
 generalize hH : hiOf (x + a) = H at *
 generalize hL : loOf (x + a) = L at *
 clear hH hL
 go_enter Tryz.func130, Tryz.ntmps130
 go_wp2
 go_quiet ((go_at_call 131; exact Calls.quiet_of_same (upper_any _ ⟨c1, c2⟩ _)))
 go_wp2
 simp [bodyPost, results, Tryz.results130, go_sem]
 repeat (first | exact Ext.refl _ | apply Ext.drewN | apply Ext.drew | apply Ext.alloc | refine Ext.setCell ?_ (by simp) _)
theorem less_acc (x a : Int) (h3 : I64 a) (w : World) : Calls Tryz.prog 141 #[.agg #[.int .i64 (hiOf x), .int .u64 (loOf x)], .int .i64 a] w fun e w' => e = .returned (.agg #[.int .i64 (hiOf (x - a)), .int .u64 (loOf (x - a))]) ∧ Ext w w' := by
 obtain ⟨a1, a2⟩ := hi_bd x; obtain ⟨b1, b2⟩ := lo_bd x
 have p1 := less_lo x a
 have p2 := less_hi x a h3
 obtain ⟨c1, c2⟩ := h3
 have hw : 0 ≤ IntKind.u64.wrap a ∧ IntKind.u64.wrap a < 18446744073709551616 := by rw [wrapU]; omega
 have k1 := fun w => sub64_0 (loOf x) (IntKind.u64.wrap a) b1 hw.1 hw.2 w
 have k2 := fun w => sub64 (IntKind.u64.wrap (hiOf x)) (up64 a) (bor (loOf x) (IntKind.u64.wrap a)) (by rw [wrapU]; omega) (up_bd a).1 (up_bd a).2 (bor_bd _ _).1 (bor_bd _ _).2 w
 generalize hH : hiOf (x - a) = H at *
 generalize hL : loOf (x - a) = L at *
 clear hH hL
 go_enter Tryz.func141, Tryz.ntmps141
 go_wp2
 go_quiet ((go_at_call 131; exact Calls.quiet_of_same (upper_any _ ⟨c1, c2⟩ _)))
 go_wp2
 simp [bodyPost, results, Tryz.results141, go_sem]
 repeat (first | exact Ext.refl _ | apply Ext.drewN | apply Ext.drew | apply Ext.alloc | refine Ext.setCell ?_ (by simp) _)

/-! ### the document's words of 128 bits -/
theorem word_any (a : Int) (h3 : I64 a) (w : World) : Calls Tryz.prog 81 #[.int .i64 a] w fun e w' => e = .returned (.agg #[.int .u64 (uhi a), .int .u64 (loOf a)]) ∧ Ext w w' := by
 obtain ⟨c1, c2⟩ := h3
 go_enter Tryz.func81, Tryz.ntmps81
 go_wp2
 all_goals simp [bodyPost, results, Tryz.results81, go_sem]
 · exact ⟨⟨by unfold uhi; omega, by rw [wrapU]; rfl⟩, by repeat (first | exact Ext.refl _ | apply Ext.drewN | apply Ext.drew | apply Ext.alloc | refine Ext.setCell ?_ (by simp) _)⟩
 · exact ⟨⟨by unfold uhi; omega, by unfold loOf; omega⟩, by repeat (first | exact Ext.refl _ | apply Ext.drewN | apply Ext.drew | apply Ext.alloc | refine Ext.setCell ?_ (by simp) _)⟩
theorem plusW_any (ah al bh bl : Int) (h1 : U64 ah) (h2 : U64 al) (h3 : U64 bh) (h4 : U64 bl) (w : World) : Calls Tryz.prog 47 #[.agg #[.int .u64 ah, .int .u64 al], .agg #[.int .u64 bh, .int .u64 bl]] w fun e w' => e = .returned (.agg #[.int .u64 (uhi ((ah + bh) * 18446744073709551616 + (al + bl))), .int .u64 (loOf (al + bl))]) ∧ Ext w w' := by
 obtain ⟨a1, a2⟩ := h1; obtain ⟨b1, b2⟩ := h2; obtain ⟨c1, c2⟩ := h3; obtain ⟨d1, d2⟩ := h4
 go_enter Tryz.func47, Tryz.ntmps47
 go_wp2
 all_goals
   simp [bodyPost, results, Tryz.results47, go_sem]
   exact ⟨⟨by simp only [wrapU] at *; unfold uhi; omega, by first | (rw [wrapU]; rfl) | (unfold loOf; omega)⟩, by repeat (first | exact Ext.refl _ | apply Ext.drewN | apply Ext.drew | apply Ext.alloc | refine Ext.setCell ?_ (by simp) _)⟩
theorem minusW_any (ah al bh bl : Int) (h1 : U64 ah) (h2 : U64 al) (h3 : U64 bh) (h4 : U64 bl) (w : World) : Calls Tryz.prog 83 #[.agg #[.int .u64 ah, .int .u64 al], .agg #[.int .u64 bh, .int .u64 bl]] w fun e w' => e = .returned (.agg #[.int .u64 (uhi ((ah - bh) * 18446744073709551616 + (al - bl))), .int .u64 (loOf (al - bl))]) ∧ Ext w w' := by
 obtain ⟨a1, a2⟩ := h1; obtain ⟨b1, b2⟩ := h2; obtain ⟨c1, c2⟩ := h3; obtain ⟨d1, d2⟩ := h4
 go_enter Tryz.func83, Tryz.ntmps83
 go_wp2
 all_goals
   simp [bodyPost, results, Tryz.results83, go_sem]
   exact ⟨⟨by simp only [wrapU] at *; unfold uhi; omega, by first | (rw [wrapU]; rfl) | (unfold loOf; omega)⟩, by repeat (first | exact Ext.refl _ | apply Ext.drewN | apply Ext.drew | apply Ext.alloc | refine Ext.setCell ?_ (by simp) _)⟩
theorem plusW_w (x y : Int) (w : World) : Calls Tryz.prog 47 #[.agg #[.int .u64 (uhi x), .int .u64 (loOf x)], .agg #[.int .u64 (uhi y), .int .u64 (loOf y)]] w fun e w' => e = .returned (.agg #[.int .u64 (uhi (x + y)), .int .u64 (loOf (x + y))]) ∧ Ext w w' := by
 have e1 : uhi ((uhi x + uhi y) * 18446744073709551616 + (loOf x + loOf y)) = uhi (x + y) := by unfold uhi loOf; omega
 have e2 : loOf (loOf x + loOf y) = loOf (x + y) := by unfold loOf; omega
 rw [← e1, ← e2]
 exact plusW_any _ _ _ _ (uhi_bd x) (lo_bd x) (uhi_bd y) (lo_bd y) w
theorem minusW_w (x y : Int) (w : World) : Calls Tryz.prog 83 #[.agg #[.int .u64 (uhi x), .int .u64 (loOf x)], .agg #[.int .u64 (uhi y), .int .u64 (loOf y)]] w fun e w' => e = .returned (.agg #[.int .u64 (uhi (x - y)), .int .u64 (loOf (x - y))]) ∧ Ext w w' := by
 have e1 : uhi ((uhi x - uhi y) * 18446744073709551616 + (loOf x - loOf y)) = uhi (x - y) := by unfold uhi loOf; omega
 have e2 : loOf (loOf x - loOf y) = loOf (x - y) := by unfold loOf; omega
 rw [← e1, ← e2]
 exact minusW_any _ _ _ _ (uhi_bd x) (lo_bd x) (uhi_bd y) (lo_bd y) w

open Go.RowKit
set_option maxHeartbeats 400000

theorem rplus_acc (x a : Int) (h3 : I64 a) (w : World) : Calls Tryz.prog 82 #[.agg #[.int .i64 (hiOf x), .int .u64 (loOf x)], .int .i64 a] w fun e w' => e = .returned (.agg #[.int .i64 (hiOf (x + a)), .int .u64 (loOf (x + a))]) ∧ Ext w w' := by
 have p1 := uhi_hiOf x
 have p2 := hiOf_uhi (x + a)
 obtain ⟨a1, a2⟩ := hi_bd x; obtain ⟨b1, b2⟩ := lo_bd x
 go_enter Tryz.func82, Tryz.ntmps82
 go_wp2
 go_region_held3 (fun w' => (Ext w w' ∧ w.heap.size + 1 < w'.heap.size) ∧ w'.cell? ⟨w.heap.size, 0, none⟩ = some (.int .i64 (hiOf x)) ∧ w'.cell? ⟨w.heap.size, 1, none⟩ = some (.int .u64 (loOf x)))
   (first
     | assumption
     | (refine keep2 ?_ ((Ext.refl _).alloc _); assumption)
     | (refine keep2 ?_ ((Ext.refl _).drew); assumption)
     | (refine ⟨⟨((Ext.refl _).alloc _).alloc _ |>.drew, ?_⟩, ?_, ?_⟩ <;> simp [go_sem, World.cell?_alloc_past])
     | (refine ⟨⟨(((Ext.refl _).alloc _).alloc _).alloc _ |>.drew, ?_⟩, ?_, ?_⟩ <;> simp [go_sem, World.cell?_alloc_past])
     | (refine keepS (keepS ?_ ?_ ?_) ?_ ?_; assumption; all_goals (first | omega | (simp; omega))))
   (first
     | (go_at_call 81; refine (word_any a h3 _).mono ?_; rintro e w' ⟨rfl, hE⟩; have hS := keep2 (by assumption) hE; obtain ⟨hc, hf⟩ := hE.cell; have hz := hE.sz; (try simp at hz); (try have hz3 : w.heap.size + 2 < w'.heap.size := by omega); have hz4 : w.heap.size < w'.heap.size := by omega)
     | (go_at_call 47; refine (plusW_w x a _).mono ?_; rintro e w' ⟨rfl, hE⟩; have hS := keep2 (by assumption) hE; obtain ⟨hc, hf⟩ := hE.cell; have hz := hE.sz; (try simp at hz); (try have hz3 : w.heap.size + 2 < w'.heap.size := by omega); have hz4 : w.heap.size < w'.heap.size := by omega))
 go_wp2
 all_goals
   simp [bodyPost, results, Tryz.results82, go_sem, *]
   repeat (first | exact hS.1.1 | apply Ext.alloc | refine Ext.setCell ?_ (by first | (simp; done) | (simp; omega) | (dsimp only; omega)) _)
end Go.Proofs.YtalejeknigbhjaaGreatDoor
