/-
 The contract of math/bits.Div64, walked over the library's own text: quotient and rest of two words by one.
 Contracts of products and quotients of the program: ratio, Mul, Div; and that the law's own small call lives.
 Contracts of the document's words of 128 bits: twice, which is greater, products bit by bit.
 The contract of the document's Signed.
-/
import Derived.Test.YtiahgalhemljnaaGreatDoorV5
import Derived.Deep.CutBlock
import Derived.Deep.DeepCutAuto
import Derived.Test.YtiahgalhemljnaaGreatDoorV1
namespace Go.Proofs.YtiahgalhemljnaaGreatDoor
open Go.RowKit
set_option maxHeartbeats 1000000

open Go.RowKit
set_option maxHeartbeats 1000000

/-- A size with a sign, if that is a number. -/
def sgnB (n : Nat) : Bool := decide (n ≤ 9223372036854775807)
def sgnV (neg : Bool) (n : Nat) : Int := if sgnB n then (if neg then -(n : Int) else n) else 0
theorem sgnB_no {n : Nat} (h : 9223372036854775807 < n) : sgnB n = false := by unfold sgnB; simp; omega
theorem sgnB_yes {n : Nat} (h : n ≤ 9223372036854775807) : sgnB n = true := by unfold sgnB; simp; omega
theorem sgnV_no {n : Nat} (neg : Bool) (h : 9223372036854775807 < n) : sgnV neg n = 0 := by unfold sgnV; rw [sgnB_no h]; rfl
theorem sgnV_yes {n : Nat} (neg : Bool) (h : n ≤ 9223372036854775807) : sgnV neg n = if neg then -(n : Int) else n := by unfold sgnV; rw [sgnB_yes h]; rfl

open Go.RowKit
set_option maxHeartbeats 1000000

/-- Block b holds the word x. -/
def Pair (wr : World) (b : Nat) (x : Int) : Prop :=
 b < wr.heap.size ∧ wr.cell? ⟨b, 0, none⟩ = some (.int .u64 (uhi x)) ∧ wr.cell? ⟨b, 1, none⟩ = some (.int .u64 (loOf x)) ∧ wr.frozen? ⟨b, 0, none⟩ = false ∧ wr.frozen? ⟨b, 1, none⟩ = false
theorem Pair.ext {w w' : World} {b : Nat} {x : Int} (h : Pair w b x) (e : Ext w w') : Pair w' b x := by
 obtain ⟨z, c0, c1, f0, f1⟩ := h
 exact ⟨Nat.lt_of_lt_of_le z e.size, (e.cell.1 b 0 z).trans c0, (e.cell.1 b 1 z).trans c1, (e.cell.2 b 0 z).trans f0, (e.cell.2 b 1 z).trans f1⟩
theorem Pair.set {w : World} {b : Nat} {x : Int} (h : Pair w b x) (y : Int) : Pair ((w.setCell ⟨b, 0, none⟩ (.int .u64 (uhi y))).setCell ⟨b, 1, none⟩ (.int .u64 (loOf y))) b y := by
 obtain ⟨z, c0, c1, f0, f1⟩ := h
 have c0' := World.cell?_setCell_same w ⟨b, 0, none⟩ (.int .u64 (uhi y)) (by rw [c0])
 have c1' : (w.setCell ⟨b, 0, none⟩ (.int .u64 (uhi y))).cell? ⟨b, 1, none⟩ = some (.int .u64 (loOf x)) := by
   rw [World.cell?_setCell_other _ _ _ _ (by simp)]; exact c1
 refine ⟨by simpa [World.setCell] using z, ?_, ?_, ?_, ?_⟩
 · rw [World.cell?_setCell_other _ _ _ _ (by simp)]; exact c0'
 · exact World.cell?_setCell_same _ ⟨b, 1, none⟩ _ (by rw [c1'])
 · rw [World.frozen?_setCell, World.frozen?_setCell]; exact f0
 · rw [World.frozen?_setCell, World.frozen?_setCell]; exact f1
theorem Pair.far {w : World} {b c : Nat} {x : Int} (h : Pair w b x) (hc : c ≠ b) (o : Nat) (v : Value) : Pair (w.setCell ⟨c, o, none⟩ v) b x := by
 obtain ⟨z, c0, c1, f0, f1⟩ := h
 refine ⟨by simpa [World.setCell] using z, ?_, ?_, ?_, ?_⟩
 · rw [World.cell?_setCell_far _ _ _ _ hc]; exact c0
 · rw [World.cell?_setCell_far _ _ _ _ hc]; exact c1
 · rw [World.frozen?_setCell]; exact f0
 · rw [World.frozen?_setCell]; exact f1

theorem or_even (t l : Nat) (hl : l < 2) (ht : 2 * t < 18446744073709551616) : bits .or .u64 ((2 * t : Nat) : Int) (l : Int) = ((2 * t + l : Nat) : Int) := by
 rw [bits_or_u64_nat _ _ ht (by omega)]
 have := Nat.two_pow_add_eq_or_of_lt (i := 1) (b := l) (by omega) t
 rw [show (2 : Nat) ^ 1 = 2 from rfl] at this
 rw [← this]
theorem up_hi (x : Int) : bits .or .u64 (IntKind.u64.wrap (uhi x * 2)) (loOf x / 9223372036854775808) = uhi (x * 2) := by
 obtain ⟨h, hh⟩ := Int.eq_ofNat_of_zero_le (uhi_bd x).1
 obtain ⟨l, hl⟩ := Int.eq_ofNat_of_zero_le (lo_bd x).1
 have b1 := (uhi_bd x).2
 have b2 := (lo_bd x).2
 have e1 : IntKind.u64.wrap (uhi x * 2) = ((2 * (h % 9223372036854775808) : Nat) : Int) := by rw [hh, wrapU]; omega
 have e2 : loOf x / 9223372036854775808 = ((l / 9223372036854775808 : Nat) : Int) := by rw [hl]; omega
 rw [e1, e2, or_even _ _ (by omega) (by omega)]
 have e3 : uhi (x * 2) = (uhi x * 2 + loOf x / 9223372036854775808) % 18446744073709551616 := by unfold uhi loOf; omega
 rw [e3, hh, hl]
 omega
theorem up_lo (x : Int) : IntKind.u64.wrap (loOf x * 2) = loOf (x * 2) := by rw [wrapU]; unfold loOf; omega
theorem up_w (x : Int) (w : World) : Calls Tryz.prog 78 #[.agg #[.int .u64 (uhi x), .int .u64 (loOf x)]] w fun e w' => e = .returned (.agg #[.int .u64 (uhi (x * 2)), .int .u64 (loOf (x * 2))]) ∧ Ext w w' := by
 have e1 := up_hi x
 have e2 := up_lo x
 obtain ⟨a1, a2⟩ := uhi_bd x; obtain ⟨b1, b2⟩ := lo_bd x
 generalize uhi (x * 2) = H at *
 generalize loOf (x * 2) = L at *
 go_enter Tryz.func78, Tryz.ntmps78
 go_wp2
 simp [bodyPost, results, Tryz.results78, go_sem]
 exact (by repeat (first | exact Ext.refl _ | apply Ext.drew | apply Ext.drewN | apply Ext.alloc | refine Ext.setCell ?_ (by simp) _))

open Go.RowKit
set_option maxHeartbeats 1000000

theorem rsigned_w (neg : Bool) (x : Nat) (hx : x < 340282366920938463463374607431768211456) (w : World) :
   Calls Tryz.prog 57 #[.bool neg, .agg #[.int .u64 (uhi x), .int .u64 (loOf x)]] w fun e w' => e = .returned (.tuple #[.int .i64 (sgnV neg x), .bool (sgnB x)]) ∧ Ext w w' := by
 obtain ⟨u1, u2⟩ := uhi_bd x; obtain ⟨u3, u4⟩ := lo_bd x
 have hX : (x : Int) = uhi x * 18446744073709551616 + loOf x := by unfold uhi loOf; omega
 have HB1 : Hid (0 < uhi x → 9223372036854775807 < x) := by show 0 < uhi x → _; intro h; omega
 have HB2 : Hid (9223372036854775807 < loOf x → 9223372036854775807 < x) := by show 9223372036854775807 < loOf x → _; intro h; omega
 have HB3 : Hid (¬ 0 < uhi x → ¬ 9223372036854775807 < loOf x → x ≤ 9223372036854775807 ∧ loOf x = x) := by show ¬ 0 < uhi x → _; intro h1 h2; omega
 clear hX hx
 generalize hh : uhi x = h at *
 generalize hl : loOf x = l at *
 clear hh hl
 by_cases g1 : 0 < h
 · have H1 : Hid (sgnB x = false) := sgnB_no (HB1.out g1)
   have H2 : Hid (sgnV neg x = 0) := sgnV_no neg (HB1.out g1)
   go_enter Tryz.func57, Tryz.ntmps57
   go_wp2
   go_ret2
   exact ⟨ret_ib H2.out.symm H1.out.symm, (Ext.refl _).alloc _⟩
 by_cases g2 : 9223372036854775807 < l
 · have H1 : Hid (sgnB x = false) := sgnB_no (HB2.out g2)
   have H2 : Hid (sgnV neg x = 0) := sgnV_no neg (HB2.out g2)
   go_enter Tryz.func57, Tryz.ntmps57
   go_wp2
   go_ret2
   exact ⟨ret_ib H2.out.symm H1.out.symm, (Ext.refl _).alloc _⟩
 · obtain ⟨k1, k2⟩ := HB3.out g1 g2
   have H1 : Hid (sgnB x = true) := sgnB_yes k1
   have H2 : Hid (sgnV neg x = if neg then -l else l) := by show sgnV neg x = _; rw [sgnV_yes neg k1, k2]
   have w1 : wrap64 l = l := by unfold wrap64; omega
   clear k1 k2
   cases neg
   all_goals
     go_enter Tryz.func57, Tryz.ntmps57
     go_wp2
     go_ret2
     exact ⟨ret_ib (by rw [H2.out]; rfl) H1.out.symm, (Ext.refl _).alloc _⟩
end Go.Proofs.YtiahgalhemljnaaGreatDoor
