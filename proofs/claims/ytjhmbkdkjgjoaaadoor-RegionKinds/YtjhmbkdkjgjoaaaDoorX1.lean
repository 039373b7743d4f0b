/-
 Plain arithmetic of 64 and 128 bits for the walks over package fix and the document's answers: no program in sight.
 Decimal numerals as lists of bytes: which are numerals, what they say, how numbers are written. Plain mathematics: no program in sight.
 Contracts of the small functions of package fix and of the document's answers: sizes, numbers, sums of 128 bits.
 Contracts of the document's answers: a sum and a number, a sum less a number (128 bits).
 Contracts: a sum told as a number, of the program and of the document's answers.
 Contracts of Add and Sub, of the program and of the document's answers.
 The contracts of package num's digitsAlone and whole.
-/
import Derived.WalkKit
import Derived.WalkSpells
import Derived.Deep.QuietTactic
import Derived.BigQuiet
import Derived.Shelf.Spec.BitsCarry
import Derived.Deep.RegionHeld3
import Derived.Lib.ItoaNum
import Derived.Lib.Strings
import Derived.Test.YtjhmbkdkjgjoaaaDoorRows
import Derived.Laws.Externs
import Derived.WalkLawsBesides
namespace Go.Proofs.YtjhmbkdkjgjoaaaDoor
open Go.RowKit

/-- Is it a number? (Every int64 but the least.) -/
def canB (a : Int) : Bool := a != -9223372036854775808
/-- A number without its sign. -/
def absI (a : Int) : Int := if a < 0 then -a else a
def loOf (x : Int) : Int := x % 18446744073709551616
/-- An int64. -/
def I64 (a : Int) : Prop := -9223372036854775808 ≤ a ∧ a ≤ 9223372036854775807
/-- A uint64. -/
def U64 (a : Int) : Prop := 0 ≤ a ∧ a < 18446744073709551616

theorem i64_of_wf {x : Int} (h : (Lit.int .i64 x).wf = true) : I64 x := by
 simp [Lit.wf, IntKind.min, IntKind.max, IntKind.signed, IntKind.bits] at h
 exact ⟨by omega, by omega⟩
theorem ret_int {k : IntKind} {a b : Int} (h : a = b) : Ending.returned (.int k a) = .returned (.int k b) := by rw [h]
theorem ret_bool {a b : Bool} (h : a = b) : Ending.returned (.bool a) = .returned (.bool b) := by rw [h]
theorem ret_ib {k : IntKind} {a b : Int} {x y : Bool} (h : a = b) (g : x = y) : Ending.returned (.tuple #[.int k a, .bool x]) = .returned (.tuple #[.int k b, .bool y]) := by rw [h, g]
theorem ret_ii {k l : IntKind} {a b x y : Int} (h : a = b) (g : x = y) : Ending.returned (.tuple #[.int k a, .int l x]) = .returned (.tuple #[.int k b, .int l y]) := by rw [h, g]
theorem wrapU (x : Int) : IntKind.u64.wrap x = x % 18446744073709551616 := IntKind.wrap_u64 x

def uhi (x : Int) : Int := (x / 18446744073709551616) % 18446744073709551616
theorem lo_bd (x : Int) : U64 (loOf x) := by unfold loOf; exact ⟨by omega, by omega⟩
theorem uhi_bd (x : Int) : U64 (uhi x) := by unfold uhi; exact ⟨by omega, by omega⟩
/-- The world behind a call: of what was there nothing has turned. -/
def Ext (w w' : World) : Prop := Below w.heap.size w w'
theorem Ext.refl (w : World) : Ext w w := Below.refl _ _
theorem Ext.trans {a b c : World} (h : Ext a b) (k : Ext b c) : Ext a c := Below.trans h (Below.mono k h.size)
theorem Ext.drew {a w : World} (h : Ext a w) : Ext a w.drew := Below.drew h
theorem Ext.drewN {a w : World} (h : Ext a w) (n : Nat) : Ext a (w.drewN n) := h.trans ⟨rfl, rfl, rfl, Nat.le_refl _, fun _ _ => rfl⟩
theorem Ext.alloc {a w : World} (h : Ext a w) (o : Obj) : Ext a (w.alloc o) := Below.alloc h h.size o
theorem Ext.setCell {a w : World} (h : Ext a w) {p : Addr} (hp : a.heap.size ≤ p.block) (u : Value) : Ext a (w.setCell p u) := Below.setCell h hp u
theorem Ext.cell {w w1 : World} (hb : Ext w w1) : (∀ b o, b < w.heap.size → w1.cell? ⟨b, o, none⟩ = w.cell? ⟨b, o, none⟩) ∧ (∀ b o, b < w.heap.size → w1.frozen? ⟨b, o, none⟩ = w.frozen? ⟨b, o, none⟩) :=
 ⟨fun b o h => Below.cell hb (p := ⟨b, o, none⟩) h, fun b o h => Below.frozen hb (p := ⟨b, o, none⟩) h⟩
theorem Ext.sz {w w' : World} (h : Ext w w') : w.heap.size ≤ w'.heap.size := h.size

/-! ### For regions that draw their order: a pair of cells, and that of what was there nothing has turned -/

open Go.RowKit

/-- A digit. -/
def dgB (c : UInt8) : Bool := decide (48 ≤ c.toNat ∧ c.toNat ≤ 57)
/-- What digits say. -/
def val (l : List UInt8) : Nat := l.foldl (fun n c => n * 10 + (c.toNat - 48)) 0
/-- Digits alone, one to forty of them. -/
def okD (l : List UInt8) : Bool := decide (1 ≤ l.length ∧ l.length ≤ 40) && l.all dgB
/-- Noughts. -/
def zs (n : Nat) : List UInt8 := List.replicate n 48
/-- A minus ahead. -/
def minusB (l : List UInt8) : Bool := l.head? == some 45
/-- What stands behind it. -/
def sizeL (l : List UInt8) : List UInt8 := if minusB l then l.tail else l
/-- Ahead of the first dot; behind it; whether there is one. -/
def cutA (l : List UInt8) : List UInt8 := l.takeWhile (fun c => c != 46)
def cutB (l : List UInt8) : List UInt8 := (l.dropWhile (fun c => c != 46)).tail
def dotB (l : List UInt8) : Bool := l.any (fun c => c == 46)
/-- The digits that count, and whether the rest rounds up. -/
def four (b : List UInt8) : List UInt8 := (b ++ zs 5).take 4
def fifth (b : List UInt8) : UInt8 := (b ++ zs 5).getD 4 0
def rndN (b : List UInt8) : Nat := if 53 ≤ (fifth b).toNat then 1 else 0
/-- What a numeral's two parts say, in ten thousandths. -/
def nv (a b : List UInt8) : Nat := val (a ++ four b) + rndN b
/-- Is it a numeral; what does it say; and what is answered. -/
def numB (l : List UInt8) : Bool := okD (cutA (sizeL l)) && (!dotB (sizeL l) || okD (cutB (sizeL l)))
def numN (l : List UInt8) : Nat := nv (cutA (sizeL l)) (cutB (sizeL l))
def rdK (l : List UInt8) : Int := if numB l then (if numN l ≤ 9223372036854775807 then 1 else 2) else 0
def rdV (l : List UInt8) : Int := if numB l && decide (numN l ≤ 9223372036854775807) then (if minusB l then -(numN l : Int) else numN l) else 0

theorem val_snoc (l : List UInt8) (c : UInt8) : val (l ++ [c]) = val l * 10 + (c.toNat - 48) := by simp [val, List.foldl_append]
theorem val_from (b : List UInt8) (n : Nat) : b.foldl (fun n c => n * 10 + (c.toNat - 48)) n = n * 10 ^ b.length + val b := by
 induction b generalizing n with
 | nil => simp [val]
 | cons c b ih =>
   simp only [val, List.foldl_cons, List.length_cons] at ih ⊢
   rw [ih, ih (0 * 10 + _), Nat.pow_succ, Nat.add_mul, Nat.mul_assoc, Nat.mul_comm 10 (10 ^ b.length), Nat.zero_mul, Nat.zero_add]
   omega
theorem val_append (a b : List UInt8) : val (a ++ b) = val a * 10 ^ b.length + val b := by
 unfold val; rw [List.foldl_append, val_from]; rfl
theorem dg_bd {c : UInt8} (h : dgB c = true) : 48 ≤ c.toNat ∧ c.toNat ≤ 57 := by simpa [dgB] using h
theorem val_zs (n : Nat) : val (zs n) = 0 := by
 induction n with
 | zero => rfl
 | succ n ih => rw [zs, List.replicate_succ', val_snoc]; unfold zs at ih; rw [ih]; rfl
theorem val_take_succ (l : List UInt8) (k : Nat) (h : k < l.length) : val (l.take (k + 1)) = val (l.take k) * 10 + (l[k].toNat - 48) := by
 rw [List.take_succ_eq_append_getElem h, val_snoc]

theorem len_zs (n : Nat) : (zs n).length = n := by simp [zs]
theorem dg_ofNat {d : Nat} (h : d < 10) : dgB (UInt8.ofNat (48 + d)) = true ∧ (UInt8.ofNat (48 + d)).toNat = 48 + d := by
 have e : (UInt8.ofNat (48 + d)).toNat = 48 + d := by simp [UInt8.toNat_ofNat]; omega
 exact ⟨by unfold dgB; rw [e]; simp; omega, e⟩
open Go.Lib in
theorem dec_all (u : Nat) : (decDigits u).all dgB = true := by
 induction u using Nat.strongRecOn with
 | _ u ih =>
   by_cases h : u < 10
   · rw [decDigits, dif_pos h]; rw [List.all_cons, (dg_ofNat h).1]; rfl
   · rw [decDigits, dif_neg h, List.all_append, ih (u / 10) (by omega)]
     rw [List.all_cons, (dg_ofNat (d := u % 10) (by omega)).1]; rfl
open Go.Lib in
theorem dec_val (u : Nat) : val (decDigits u) = u := by
 induction u using Nat.strongRecOn with
 | _ u ih =>
   by_cases h : u < 10
   · rw [decDigits, dif_pos h]; show val ([] ++ [_]) = u; rw [val_snoc, (dg_ofNat h).2]; simp [val]
   · rw [decDigits, dif_neg h, val_snoc, ih (u / 10) (by omega), (dg_ofNat (d := u % 10) (by omega)).2]; omega
open Go.Lib in
theorem dec_len (u k : Nat) (h : u < 10 ^ (k + 1)) : 1 ≤ (decDigits u).length ∧ (decDigits u).length ≤ k + 1 := by
 rw [decDigits_length]
 refine ⟨nDigits_pos u, ?_⟩
 induction k generalizing u with
 | zero => rw [nDigits_small (by simpa using h)]; omega
 | succ k ih =>
   by_cases hu : u < 10
   · rw [nDigits_small hu]; omega
   · rw [nDigits_big hu]
     have := ih (u / 10) (by rw [Nat.pow_succ] at h; omega)
     omega

open Go.RowKit
set_option maxHeartbeats 400000

theorem can_any (a : Int) (w : World) : Calls Tryd.prog 31 #[.int .i64 a] w fun e w' => e = .returned (.bool (canB a)) ∧ w' = w := by
 go_enter Tryd.func31, Tryd.ntmps31
 go_wp2
 go_ret
 exact ⟨rfl, rfl⟩
theorem rcan_any (a : Int) (w : World) : Calls Tryd.prog 33 #[.int .i64 a] w fun e w' => e = .returned (.bool (canB a)) ∧ w' = w := by
 go_enter Tryd.func33, Tryd.ntmps33
 go_wp2
 go_ret
 exact ⟨rfl, rfl⟩
theorem rsize_any (a : Int) (ha : I64 a) (w : World) : Calls Tryd.prog 56 #[.int .i64 a] w fun e w' => e = .returned (.int .u64 (absI a)) ∧ w' = w := by
 obtain ⟨_, _⟩ := ha
 go_enter Tryd.func56, Tryd.ntmps56
 go_wp2
 all_goals go_ret
 · exact ⟨ret_int (by unfold absI; omega), rfl⟩
 · exact ⟨ret_int (by unfold absI; omega), rfl⟩

/-! ### fix.numbers, over one number and over two -/
/-! ### fix.Plus, fix.Less -/
/-! ### the document's words of 128 bits -/
theorem plusW_any (ah al bh bl : Int) (h1 : U64 ah) (h2 : U64 al) (h3 : U64 bh) (h4 : U64 bl) (w : World) : Calls Tryd.prog 78 #[.agg #[.int .u64 ah, .int .u64 al], .agg #[.int .u64 bh, .int .u64 bl]] w fun e w' => e = .returned (.agg #[.int .u64 (uhi ((ah + bh) * 18446744073709551616 + (al + bl))), .int .u64 (loOf (al + bl))]) ∧ Ext w w' := by
 obtain ⟨a1, a2⟩ := h1; obtain ⟨b1, b2⟩ := h2; obtain ⟨c1, c2⟩ := h3; obtain ⟨d1, d2⟩ := h4
 go_enter Tryd.func78, Tryd.ntmps78
 go_wp2
 all_goals
   simp [bodyPost, results, Tryd.results78, go_sem]
   exact ⟨⟨by simp only [wrapU] at *; unfold uhi; omega, by first | (rw [wrapU]; rfl) | (unfold loOf; omega)⟩, by repeat (first | exact Ext.refl _ | apply Ext.drewN | apply Ext.drew | apply Ext.alloc | refine Ext.setCell ?_ (by simp) _)⟩
theorem plusW_w (x y : Int) (w : World) : Calls Tryd.prog 78 #[.agg #[.int .u64 (uhi x), .int .u64 (loOf x)], .agg #[.int .u64 (uhi y), .int .u64 (loOf y)]] w fun e w' => e = .returned (.agg #[.int .u64 (uhi (x + y)), .int .u64 (loOf (x + y))]) ∧ Ext w w' := by
 have e1 : uhi ((uhi x + uhi y) * 18446744073709551616 + (loOf x + loOf y)) = uhi (x + y) := by unfold uhi loOf; omega
 have e2 : loOf (loOf x + loOf y) = loOf (x + y) := by unfold loOf; omega
 rw [← e1, ← e2]
 exact plusW_any _ _ _ _ (uhi_bd x) (lo_bd x) (uhi_bd y) (lo_bd y) w

open Go.RowKit
set_option maxHeartbeats 400000

open Go.RowKit
set_option maxHeartbeats 400000

open Go.RowKit
set_option maxHeartbeats 400000

open Go.RowKit
set_option maxHeartbeats 1000000

theorem size_list (s : ByteArray) : s.data.toList.length = s.size := (Lib.size_eq s).symm
theorem get_list (s : ByteArray) (k : Nat) (h : k < s.size) : s.data.toList[k]'(by rw [size_list]; exact h) = s[k] := rfl
theorem all_take (l : List UInt8) (k : Nat) (h : k < l.length) : (l.take (k + 1)).all dgB = ((l.take k).all dgB && dgB l[k]) := by
 rw [List.take_succ_eq_append_getElem h, List.all_append]; simp
theorem okD_yes (l : List UInt8) (h1 : 1 ≤ l.length) (h2 : l.length ≤ 40) (h : l.all dgB = true) : okD l = true := by
 unfold okD; rw [h]; simp; omega
theorem dg_no {c : UInt8} (h : (c.toNat : Int) < 48 ∨ (57 : Int) < c.toNat) : dgB c = false := by unfold dgB; simp; omega
theorem dg_yes {c : UInt8} (h : ¬ (c.toNat : Int) < 48) (h' : ¬ (57 : Int) < c.toNat) : dgB c = true := by unfold dgB; simp; omega

/-- A list of digits, step by step. -/
theorem dig_at (l : List UInt8) (h : l.all dgB = true) (k : Nat) (hk : k < l.length) : 48 ≤ l[k].toNat ∧ l[k].toNat ≤ 57 :=
 dg_bd (List.all_eq_true.1 h _ (List.getElem_mem hk))
end Go.Proofs.YtjhmbkdkjgjoaaaDoor
